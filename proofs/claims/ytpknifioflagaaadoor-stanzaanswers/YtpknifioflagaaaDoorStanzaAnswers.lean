/- StanzaAnswers: answers to a stanza, and what failed, are the document's. -/
import Derived.Test.YtpknifioflagaaaDoorSt22
import Derived.Test.YtpknifioflagaaaDoorLawM
namespace Go.Proofs.YtpknifioflagaaaDoor
open Go.RowKit Go.Shelf

theorem res_u {k : Int} {ty fr tt id : ByteArray} {pa : Option Addr} {pn pc : Nat} {ao : Option Addr} {cap : Nat} {ts : List Tok} {av : Nat → Option Addr × Nat} {w : World} (hT : TokMem w.heap.size w ao ts av) (hs : ts.length ≤ 70) :
    Calls Tryd.prog 22 #[.agg #[.int .u8 k, .string ty, .string fr, .string tt, .string id, .slice pa pn pc], .slice ao ts.length cap] w fun e w' => ∃ ga gc av', e = .returned (.agg #[.int .u8 1, .string ty_result, .string tt, .string fr, .string id, .slice ga ts.length gc]) ∧ TokMem w'.heap.size w' ga ts av' ∧ Below w.heap.size w w' := by
  refine (result_any k ty fr tt id pa pn pc ao cap ts av w hT).mono ?_
  rintro e w' ⟨v, l, rfl, m, r, b⟩
  have hl : l.length = ts.length := by rw [← m, List.length_map]
  obtain ⟨ao', cap', rfl, hT'⟩ := tokMem_own r (by omega)
  rw [m] at hT'
  exact ⟨ao', cap', _, by rw [hl], hT', b⟩
theorem err_u {k : Int} {ty fr tt id : ByteArray} {pa : Option Addr} {pn pc : Nat} {c : Int} {w : World} (hl : RowsLaid w) :
    Calls Tryd.prog 24 #[.agg #[.int .u8 k, .string ty, .string fr, .string tt, .string id, .slice pa pn pc], .int .i64 c] w fun e w' => ∃ ga gc av', e = .returned (.agg #[.int .u8 k, .string ty_error, .string tt, .string fr, .string id, .slice ga 4 gc]) ∧ TokMem w'.heap.size w' ga (errT c) av' ∧ Below w.heap.size w w' := by
  refine (error_any k ty fr tt id pa pn pc c w hl).mono ?_
  rintro e w' ⟨v, l, rfl, m, r, b⟩
  have hl : l.length = 4 := by
    have h := congrArg List.length m
    rw [List.length_map] at h
    exact h
  obtain ⟨ao', cap', rfl, hT'⟩ := tokMem_own r (by omega)
  rw [m] at hT'
  exact ⟨ao', cap', _, by rw [hl], hT', b⟩
theorem rerr_u {k : Int} {ty fr tt id : ByteArray} {pa : Option Addr} {pn pc : Nat} {c : Int} {w : World} :
    Calls Tryd.prog 25 #[.agg #[.int .u8 k, .string ty, .string fr, .string tt, .string id, .slice pa pn pc], .int .i64 c] w fun e w' => ∃ ga gc av', e = .returned (.agg #[.int .u8 k, .string ty_error, .string tt, .string fr, .string id, .slice ga 4 gc]) ∧ TokMem w'.heap.size w' ga (errT c) av' ∧ Below w.heap.size w w' := by
  refine (rerror_any k ty fr tt id pa pn pc c w).mono ?_
  rintro e w' ⟨v, l, rfl, m, r, b⟩
  have hl : l.length = 4 := by
    have h := congrArg List.length m
    rw [List.length_map] at h
    exact h
  obtain ⟨ao', cap', rfl, hT'⟩ := tokMem_own r (by omega)
  rw [m] at hT'
  exact ⟨ao', cap', _, by rw [hl], hT', b⟩
theorem rsame_yes (w : World) (k : Int) (ty fr tt id : ByteArray) (g1 g2 : Option Addr) (c1 c2 : Nat) (ts : List Tok) (n : Nat) (v1 v2 : Nat → Option Addr × Nat) (hn : ts.length = n) (h1 : TokMem w.heap.size w g1 ts v1) (h2 : TokMem w.heap.size w g2 ts v2) :
    Calls Tryd.prog 18 #[.agg #[.int .u8 k, .string ty, .string fr, .string tt, .string id, .slice g1 n c1], .agg #[.int .u8 k, .string ty, .string fr, .string tt, .string id, .slice g2 n c2]] w fun e w' => e = .returned (.bool true) ∧ Below w.heap.size w w' := by
  subst hn
  refine (rSame6_any k ty fr tt id g1 c1 ts v1 k ty fr tt id g2 c2 ts v2 w h1 h2).mono ?_
  rintro e w' ⟨⟨_, he⟩ | ⟨hn, _⟩, b⟩
  · exact ⟨he, b⟩
  · exact absurd ⟨rfl, rfl, rfl, rfl, rfl, rfl⟩ hn
set_option maxRecDepth 100000 in
set_option maxHeartbeats 8000000 in
theorem stanzaAnswers_any (k : Int) (ty fr tt id : ByteArray) (pa : Option Addr) (pc : Nat) (ts : List Tok) (av : Nat → Option Addr × Nat) (la : Option Addr) (lc : Nat) (ls : List Tok) (lv : Nat → Option Addr × Nat) (c : Int) (w : World) (hT1 : TokMem w.heap.size w pa ts av) (hc1 : ts.length ≤ pc) (hT2 : TokMem w.heap.size w la ls lv) (hc2 : ls.length ≤ lc) (hav : ∀ i t, ls[i]? = some t → (lv i).1 = none → (lv i).2 = 0) (hE : Env6 w) :
    Calls Tryd.prog 6 #[.agg #[.int .u8 k, .string ty, .string fr, .string tt, .string id, .slice pa ts.length pc], .slice la ls.length lc, .int .i64 c] w fun e w' => e = .returned (.bool true) ∧ Below w.heap.size w w' := by
  have mem1 : ∀ V, Below w.heap.size w V → TokMem V.heap.size V pa (ts.take 70) av := fun V hV => ((hT1.below hV).raise hV.size).take 70
  have mem2 : ∀ V, Below w.heap.size w V → TokMem V.heap.size V la (ls.take 70) lv := fun V hV => ((hT2.below hV).raise hV.size).take 70
  have hav2 := take_av (n := 70) hav
  have hs2 : (ls.take 70).length ≤ 70 := by rw [List.length_take]; omega
  have hmin : (ls.take 70).length = min 70 ls.length := List.length_take
  have hlen := hT2.1
  have HF := hide fun (V : World) => few6_any k ty fr tt id pa pc ts V hc1 hT1.1
  have HLV := hide fun (V : World) (hV : Env6 V) => live_any V hV
  have HSm := hide rsame_yes
  obtain ⟨us, hus⟩ : ∃ us, ts.take 70 = us := ⟨_, rfl⟩
  obtain ⟨us2, hus2⟩ : ∃ us, ls.take 70 = us := ⟨_, rfl⟩
  rw [hus] at HF mem1
  rw [hus2] at hs2 mem2 hav2 hmin
  obtain ⟨fc, fq, hfu⟩ := failed_u ty us
  have hFl := fun (V : World) (hV : Below w.heap.size w V) => (failed_any k ty fr tt id pa pc us av V (mem1 V hV) (hE.below hV).2.2.1).mono (R' := fun e w' => e = .returned (.tuple #[.int .i64 fc, .bool fq]) ∧ Below V.heap.size V w') (fun e w' h => ⟨hfu e h.1, h.2⟩)
  have hFr := fun (V : World) (hV : Below w.heap.size w V) => (rfailed_any k ty fr tt id pa pc us av V (mem1 V hV)).mono (R' := fun e w' => e = .returned (.tuple #[.int .i64 fc, .bool fq]) ∧ Below V.heap.size V w') (fun e w' h => ⟨hfu e h.1, h.2⟩)
  obtain ⟨m1, hm1⟩ : ∃ m1, ts.length = m1 := ⟨_, rfl⟩
  obtain ⟨m2, hm2⟩ : ∃ m2, ls.length = m2 := ⟨_, rfl⟩
  obtain ⟨n1, hn1⟩ : ∃ n1, us.length = n1 := ⟨_, rfl⟩
  obtain ⟨n2, hn2⟩ : ∃ n2, us2.length = n2 := ⟨_, rfl⟩
  rw [hm1, hn1] at HF
  rw [hn1] at hFl hFr
  have HFL := hide hFl
  have HFr := hide hFr
  have hRs := fun (V : World) (hV : Below w.heap.size w V) => res_u (k := k) (ty := ty) (fr := fr) (tt := tt) (id := id) (pa := pa) (pn := n1) (pc := pc) (cap := lc) (mem2 V hV) hs2
  have hRr := fun (V : World) (hV : Below w.heap.size w V) => rresult_any k ty fr tt id pa n1 pc la lc us2 lv V (mem2 V hV) hav2 (by omega)
  rw [hn2] at hRs hRr
  have HRs := hide hRs
  have HRr := hide hRr
  have HEs := hide fun (V : World) (hV : Below w.heap.size w V) => err_u (k := k) (ty := ty) (fr := fr) (tt := tt) (id := id) (pa := pa) (pn := n1) (pc := pc) (c := c) (hE.below hV).2.2.1
  have HEr := hide fun (V : World) => rerr_u (k := k) (ty := ty) (fr := fr) (tt := tt) (id := id) (pa := pa) (pn := n1) (pc := pc) (c := c) (w := V)
  rw [hm2, hn2] at hmin
  rw [hm2] at hc2 hlen ⊢
  rw [hm1]
  obtain ⟨Wa, hWa, aa, ba, za⟩ := newV w 25 #[.int .u8 k, .string ty, .string fr, .string tt, .string id, .slice pa m1 pc]
  obtain ⟨x0, x1, x2, x3, x4, x5⟩ := cells6 aa
  have HG := hide (And.intro hE hn2)
  have H0 := hide (And.intro aa ba)
  clear aa ba mem1 mem2 hE hs2 hn1 hn2 hT1 hT2 hc1 hm1 hm2 hus hus2 hav hav2 hfu hFl hFr hRs hRr
  go_enter Tryd.func6, Tryd.ntmps6
  go_wp2_with (go_at_call 9; refine (HF.out _).mono ?_; rintro e w1 ⟨rfl, b1⟩; refine stopHere ?_)
  unfold Hid
  have g1 := (b1.block w.heap.size (hp_lt H0.out.1)).trans H0.out.1
  have B1 : Below w.heap.size w w1 := H0.out.2.trans (b1.mono H0.out.2.size)
  obtain ⟨V, hV⟩ : ∃ W, ((((((w1.setCell ⟨w.heap.size, 0, none⟩ (.int .u8 k)).setCell ⟨w.heap.size, 1, none⟩ (.string ty)).setCell ⟨w.heap.size, 2, none⟩ (.string fr)).setCell ⟨w.heap.size, 3, none⟩ (.string tt)).setCell ⟨w.heap.size, 4, none⟩ (.string id)).setCell ⟨w.heap.size, 5, none⟩ (.slice pa n1 pc)) = W := ⟨_, rfl⟩
  have HS := hide (run_store_st g1 k ty fr tt id pa n1 pc)
  have gV : V.heap[w.heap.size]? = some (.cells #[.int .u8 k, .string ty, .string fr, .string tt, .string id, .slice pa n1 pc] 25) := by rw [← hV]; exact set6 g1 _ _ _ _ _ _
  have BV : Below w.heap.size w V := by rw [← hV]; exact below6 B1 (Nat.le_refl _) _ _ _ _ _ _
  obtain ⟨y0, y1, y2, y3, y4, y5⟩ := cells6 gV
  have HBV := hide (And.intro gV BV)
  rw [hV] at HS
  have HFl := hide (HFL.out V BV)
  clear gV BV g1 B1 b1 x0 x1 x2 x3 x4 x5 HF hV HFL
  by_cases h70 : 70 < m2
  · have h70i : (70 : Int) < m2 := by omega
    have hci : (70 : Int) ≤ lc := by omega
    obtain rfl : n2 = 70 := by omega
    clear hmin
    go_wp2_with (first
      | (refine l_store 25 HS.out rfl rfl rfl rfl ?_)
      | (go_at_call 20; refine HFl.out.mono ?_; rintro e w2 ⟨rfl, b2⟩; refine stopHere ?_))
    unfold Hid
    have g2 := (b2.block w.heap.size (hp_lt HBV.out.1)).trans HBV.out.1
    have B2 : Below w.heap.size w w2 := HBV.out.2.trans (b2.mono HBV.out.2.size)
    clear y0 y1 y2 y3 y4 y5
    obtain ⟨y0, y1, y2, y3, y4, y5⟩ := cells6 g2
    have HFr' := hide (HFr.out w2 B2)
    have H2 := hide (And.intro g2 B2)
    clear g2 B2 b2 HFl HS HBV HFr
    go_wp2_with (go_at_call 21; refine HFr'.out.mono ?_; rintro e w3 ⟨rfl, b3⟩; refine stopHere ?_)
    unfold Hid
    have g3 := (b3.block w.heap.size (hp_lt H2.out.1)).trans H2.out.1
    have B3 : Below w.heap.size w w3 := H2.out.2.trans (b3.mono H2.out.2.size)
    have H3 := hide (And.intro g3 B3)
    clear y0 y1 y2 y3 y4 y5 g3 B3 b3 H2 HFr'
    go_wp2_with fail
    obtain ⟨X0, hX0⟩ : ∃ X0, w3.drew = X0 := ⟨_, rfl⟩
    have E0 : Below w.heap.size w X0 := by rw [← hX0]; exact H3.out.2.drew
    have ja : X0.heap[w.heap.size]? = some (.cells #[.int .u8 k, .string ty, .string fr, .string tt, .string id, .slice pa n1 pc] 25) := by rw [← hX0]; exact H3.out.1
    refine region_rel (S := fun W => Below X0.heap.size X0 W) (fun a W => ∃ y0 y1 y2 y3 y4 y5 y7 y8 y9 y10 y11 y12 y13 y14 y15 y16 y17 y18 y19 y20 y21 y22 y23 y24 y25 y26 y27 y28 y29 y30 y31 y32 y33 y34 y35 y36 y37 y38 y39 y40 y41 y42 y43 y44 y45 y46 y47 y48 y49 y50 y51 y52 y53 y54 y55 y56 : Value, Below w.heap.size w W ∧ a = { tmps := #[y0, y1, y2, y3, y4, y5, .bool true, y7, y8, y9, y10, y11, y12, y13, y14, y15, y16, y17, y18, y19, y20, y21, y22, y23, y24, y25, y26, y27, y28, y29, y30, y31, y32, y33, y34, y35, y36, y37, y38, y39, y40, y41, y42, y43, y44, y45, y46, y47, y48, y49, y50, y51, y52, y53, y54, y55, y56], defers := [] }) (by kernel_rfl) ?reg2 ?beh2
    case reg2 =>
      rw [hX0]
      have T0 : Below X0.heap.size X0 X0 := Below.refl _ _
      refine anyH_one (i := 0) (by kernel_rfl) ?_
      refine op_call rfl (some 28) rfl rfl #[] rfl (by simp) (fun _ _ => rfl) (HLV.out X0 (HG.out.1.below E0)) ?_
      rintro e X1 ⟨rfl, d1⟩
      refine ⟨_, rfl, T0.trans (d1.mono T0.size), ?_⟩
      simp only [Act.put, List.setIfInBounds_toArray, List.set_cons_zero, List.set_cons_succ]
      have T1 : Below X0.heap.size X0 X1 := T0.trans (d1.mono T0.size)
      have E1 : Below w.heap.size w X1 := E0.trans (T1.mono E0.size)
      refine anyH_take (i := 1) (v := .bool true) rfl (some 29) rfl (by kernel_rfl) (by kernel_rfl) (by kernel_rfl) (fun _ _ _ h => by cases h.1) rfl (fun w0 hw0 => by first | rfl | kernel_rfl) T1 ?_
      simp only [Act.put, List.setIfInBounds_toArray, List.set_cons_zero, List.set_cons_succ]
      refine anyH_take (i := 2) (v := .agg #[.int .u8 k, .string ty, .string fr, .string tt, .string id, .slice pa n1 pc]) rfl (some 30) rfl (by kernel_rfl) (by kernel_rfl) (by kernel_rfl) (fun _ _ _ h => by cases h.1) rfl (fun w0 hw0 => ex_load rfl rfl (run_load_st ((hw0.block _ (hp_lt ja)).trans ja))) T1 ?_
      simp only [Act.put, List.setIfInBounds_toArray, List.set_cons_zero, List.set_cons_succ]
      refine anyH_take (i := 3) (v := .slice la 70 lc) rfl (some 31) rfl (by kernel_rfl) (by kernel_rfl) (by kernel_rfl) (fun _ _ _ h => by cases h.1) rfl (fun w0 hw0 => by first | rfl | kernel_rfl) T1 ?_
      simp only [Act.put, List.setIfInBounds_toArray, List.set_cons_zero, List.set_cons_succ]
      refine anyH_take (i := 5) (v := .agg #[.int .u8 k, .string ty, .string fr, .string tt, .string id, .slice pa n1 pc]) rfl (some 33) rfl (by kernel_rfl) (by kernel_rfl) (by kernel_rfl) (fun _ _ _ h => by cases h.1) rfl (fun w0 hw0 => ex_load rfl rfl (run_load_st ((hw0.block _ (hp_lt ja)).trans ja))) T1 ?_
      simp only [Act.put, List.setIfInBounds_toArray, List.set_cons_zero, List.set_cons_succ]
      refine anyH_take (i := 6) (v := .slice la 70 lc) rfl (some 34) rfl (by kernel_rfl) (by kernel_rfl) (by kernel_rfl) (fun _ _ _ h => by cases h.1) rfl (fun w0 hw0 => by first | rfl | kernel_rfl) T1 ?_
      simp only [Act.put, List.setIfInBounds_toArray, List.set_cons_zero, List.set_cons_succ]
      refine anyH_one (i := 4) (by kernel_rfl) ?_
      refine op_call rfl (some 32) rfl rfl #[.agg #[.int .u8 k, .string ty, .string fr, .string tt, .string id, .slice pa n1 pc], .slice la 70 lc] rfl (by simp [Act.eval]) (fun _ _ => rfl) (HRs.out X1 E1) ?_
      rintro e X2 ⟨g1, c1, v1, rfl, hT1, d2⟩
      refine ⟨_, rfl, T1.trans (d2.mono T1.size), ?_⟩
      simp only [Act.put, List.setIfInBounds_toArray, List.set_cons_zero, List.set_cons_succ]
      have T2 : Below X0.heap.size X0 X2 := T1.trans (d2.mono T1.size)
      have E2 : Below w.heap.size w X2 := E0.trans (T2.mono E0.size)
      refine anyH_one (i := 7) (by kernel_rfl) ?_
      refine op_call rfl (some 35) rfl rfl #[.agg #[.int .u8 k, .string ty, .string fr, .string tt, .string id, .slice pa n1 pc], .slice la 70 lc] rfl (by simp [Act.eval]) (fun _ _ => rfl) (HRr.out X2 E2) ?_
      rintro e X3 ⟨g2, c2, v2, rfl, hT2, d3⟩
      refine ⟨_, rfl, T2.trans (d3.mono T2.size), ?_⟩
      simp only [Act.put, List.setIfInBounds_toArray, List.set_cons_zero, List.set_cons_succ]
      have T3 : Below X0.heap.size X0 X3 := T2.trans (d3.mono T2.size)
      have E3 : Below w.heap.size w X3 := E0.trans (T3.mono E0.size)
      have hT1a := (hT1.below d3).raise d3.size
      refine anyH_one (i := 8) (by kernel_rfl) ?_
      refine op_call rfl (some 36) rfl rfl #[.agg #[.int .u8 1, .string ty_result, .string tt, .string fr, .string id, .slice g1 70 c1], .agg #[.int .u8 1, .string ty_result, .string tt, .string fr, .string id, .slice g2 70 c2]] rfl (by simp [Act.eval]) (fun _ _ => rfl) (HSm.out X3 1 ty_result tt fr id g1 g2 c1 c2 us2 70 v1 v2 HG.out.2 hT1a hT2) ?_
      rintro e X4 ⟨rfl, d4⟩
      refine ⟨_, rfl, T3.trans (d4.mono T3.size), ?_⟩
      simp only [Act.put, List.setIfInBounds_toArray, List.set_cons_zero, List.set_cons_succ]
      have T4 : Below X0.heap.size X0 X4 := T3.trans (d4.mono T3.size)
      have E4 : Below w.heap.size w X4 := E0.trans (T4.mono E0.size)
      refine anyH_take (i := 9) (v := .bool true) rfl (some 37) rfl (by kernel_rfl) (by kernel_rfl) (by kernel_rfl) (fun _ _ _ h => by cases h.1) rfl (fun w0 hw0 => ex_pickT rfl rfl rfl) T4 ?_
      simp only [Act.put, List.setIfInBounds_toArray, List.set_cons_zero, List.set_cons_succ]
      refine anyH_take (i := 10) (v := .bool true) rfl (some 38) rfl (by kernel_rfl) (by kernel_rfl) (by kernel_rfl) (fun _ _ _ h => by cases h.1) rfl (fun w0 hw0 => by first | rfl | kernel_rfl) T4 ?_
      simp only [Act.put, List.setIfInBounds_toArray, List.set_cons_zero, List.set_cons_succ]
      refine anyH_take (i := 11) (v := .agg #[.int .u8 k, .string ty, .string fr, .string tt, .string id, .slice pa n1 pc]) rfl (some 39) rfl (by kernel_rfl) (by kernel_rfl) (by kernel_rfl) (fun _ _ _ h => by cases h.1) rfl (fun w0 hw0 => ex_load rfl rfl (run_load_st ((hw0.block _ (hp_lt ja)).trans ja))) T4 ?_
      simp only [Act.put, List.setIfInBounds_toArray, List.set_cons_zero, List.set_cons_succ]
      refine anyH_take (i := 12) (v := .int .i64 c) rfl (some 40) rfl (by kernel_rfl) (by kernel_rfl) (by kernel_rfl) (fun _ _ _ h => by cases h.1) rfl (fun w0 hw0 => by first | rfl | kernel_rfl) T4 ?_
      simp only [Act.put, List.setIfInBounds_toArray, List.set_cons_zero, List.set_cons_succ]
      refine anyH_take (i := 14) (v := .agg #[.int .u8 k, .string ty, .string fr, .string tt, .string id, .slice pa n1 pc]) rfl (some 42) rfl (by kernel_rfl) (by kernel_rfl) (by kernel_rfl) (fun _ _ _ h => by cases h.1) rfl (fun w0 hw0 => ex_load rfl rfl (run_load_st ((hw0.block _ (hp_lt ja)).trans ja))) T4 ?_
      simp only [Act.put, List.setIfInBounds_toArray, List.set_cons_zero, List.set_cons_succ]
      refine anyH_take (i := 15) (v := .int .i64 c) rfl (some 43) rfl (by kernel_rfl) (by kernel_rfl) (by kernel_rfl) (fun _ _ _ h => by cases h.1) rfl (fun w0 hw0 => by first | rfl | kernel_rfl) T4 ?_
      simp only [Act.put, List.setIfInBounds_toArray, List.set_cons_zero, List.set_cons_succ]
      refine anyH_one (i := 13) (by kernel_rfl) ?_
      refine op_call rfl (some 41) rfl rfl #[.agg #[.int .u8 k, .string ty, .string fr, .string tt, .string id, .slice pa n1 pc], .int .i64 c] rfl (by simp [Act.eval]) (fun _ _ => rfl) (HEs.out X4 E4) ?_
      rintro e X5 ⟨g3, c3, v3, rfl, hT3, d5⟩
      refine ⟨_, rfl, T4.trans (d5.mono T4.size), ?_⟩
      simp only [Act.put, List.setIfInBounds_toArray, List.set_cons_zero, List.set_cons_succ]
      have T5 : Below X0.heap.size X0 X5 := T4.trans (d5.mono T4.size)
      have E5 : Below w.heap.size w X5 := E0.trans (T5.mono E0.size)
      refine anyH_one (i := 16) (by kernel_rfl) ?_
      refine op_call rfl (some 44) rfl rfl #[.agg #[.int .u8 k, .string ty, .string fr, .string tt, .string id, .slice pa n1 pc], .int .i64 c] rfl (by simp [Act.eval]) (fun _ _ => rfl) (HEr.out X5) ?_
      rintro e X6 ⟨g4, c4, v4, rfl, hT4, d6⟩
      refine ⟨_, rfl, T5.trans (d6.mono T5.size), ?_⟩
      simp only [Act.put, List.setIfInBounds_toArray, List.set_cons_zero, List.set_cons_succ]
      have T6 : Below X0.heap.size X0 X6 := T5.trans (d6.mono T5.size)
      have E6 : Below w.heap.size w X6 := E0.trans (T6.mono E0.size)
      have hT3a := (hT3.below d6).raise d6.size
      refine anyH_one (i := 17) (by kernel_rfl) ?_
      refine op_call rfl (some 45) rfl rfl #[.agg #[.int .u8 k, .string ty_error, .string tt, .string fr, .string id, .slice g3 4 c3], .agg #[.int .u8 k, .string ty_error, .string tt, .string fr, .string id, .slice g4 4 c4]] rfl (by simp [Act.eval]) (fun _ _ => rfl) (HSm.out X6 k ty_error tt fr id g3 g4 c3 c4 (errT c) 4 v3 v4 rfl hT3a hT4) ?_
      rintro e X7 ⟨rfl, d7⟩
      refine ⟨_, rfl, T6.trans (d7.mono T6.size), ?_⟩
      simp only [Act.put, List.setIfInBounds_toArray, List.set_cons_zero, List.set_cons_succ]
      have T7 : Below X0.heap.size X0 X7 := T6.trans (d7.mono T6.size)
      have E7 : Below w.heap.size w X7 := E0.trans (T7.mono E0.size)
      refine anyH_take (i := 18) (v := .bool true) rfl (some 46) rfl (by kernel_rfl) (by kernel_rfl) (by kernel_rfl) (fun _ _ _ h => by cases h.1) rfl (fun w0 hw0 => ex_pickT rfl rfl rfl) T7 ?_
      simp only [Act.put, List.setIfInBounds_toArray, List.set_cons_zero, List.set_cons_succ]
      refine anyH_take (i := 19) (v := .bool true) rfl (some 47) rfl (by kernel_rfl) (by kernel_rfl) (by kernel_rfl) (fun _ _ _ h => by cases h.1) rfl (fun w0 hw0 => by first | rfl | kernel_rfl) T7 ?_
      simp only [Act.put, List.setIfInBounds_toArray, List.set_cons_zero, List.set_cons_succ]
      refine anyH_take (i := 20) (v := .int .i64 fc) rfl (some 48) rfl (by kernel_rfl) (by kernel_rfl) (by kernel_rfl) (fun _ _ _ h => by cases h.1) rfl (fun w0 hw0 => by first | rfl | kernel_rfl) T7 ?_
      simp only [Act.put, List.setIfInBounds_toArray, List.set_cons_zero, List.set_cons_succ]
      refine anyH_take (i := 21) (v := .int .i64 fc) rfl (some 49) rfl (by kernel_rfl) (by kernel_rfl) (by kernel_rfl) (fun _ _ _ h => by cases h.1) rfl (fun w0 hw0 => by first | rfl | kernel_rfl) T7 ?_
      simp only [Act.put, List.setIfInBounds_toArray, List.set_cons_zero, List.set_cons_succ]
      refine anyH_take (i := 22) (v := .bool true) rfl (some 50) rfl (by kernel_rfl) (by kernel_rfl) (by kernel_rfl) (fun _ _ _ h => by cases h.1) rfl (fun w0 hw0 => ex_eqi rfl rfl rfl) T7 ?_
      simp only [Act.put, List.setIfInBounds_toArray, List.set_cons_zero, List.set_cons_succ]
      refine anyH_take (i := 23) (v := .bool true) rfl (some 51) rfl (by kernel_rfl) (by kernel_rfl) (by kernel_rfl) (fun _ _ _ h => by cases h.1) rfl (fun w0 hw0 => ex_pickT rfl rfl rfl) T7 ?_
      simp only [Act.put, List.setIfInBounds_toArray, List.set_cons_zero, List.set_cons_succ]
      refine anyH_take (i := 24) (v := .bool true) rfl (some 52) rfl (by kernel_rfl) (by kernel_rfl) (by kernel_rfl) (fun _ _ _ h => by cases h.1) rfl (fun w0 hw0 => by first | rfl | kernel_rfl) T7 ?_
      simp only [Act.put, List.setIfInBounds_toArray, List.set_cons_zero, List.set_cons_succ]
      refine anyH_take (i := 25) (v := .bool fq) rfl (some 53) rfl (by kernel_rfl) (by kernel_rfl) (by kernel_rfl) (fun _ _ _ h => by cases h.1) rfl (fun w0 hw0 => by first | rfl | kernel_rfl) T7 ?_
      simp only [Act.put, List.setIfInBounds_toArray, List.set_cons_zero, List.set_cons_succ]
      refine anyH_take (i := 26) (v := .bool fq) rfl (some 54) rfl (by kernel_rfl) (by kernel_rfl) (by kernel_rfl) (fun _ _ _ h => by cases h.1) rfl (fun w0 hw0 => by first | rfl | kernel_rfl) T7 ?_
      simp only [Act.put, List.setIfInBounds_toArray, List.set_cons_zero, List.set_cons_succ]
      refine anyH_take (i := 27) (v := .bool true) rfl (some 55) rfl (by kernel_rfl) (by kernel_rfl) (by kernel_rfl) (fun _ _ _ h => by cases h.1) rfl (fun w0 hw0 => ex_eqb rfl rfl rfl) T7 ?_
      simp only [Act.put, List.setIfInBounds_toArray, List.set_cons_zero, List.set_cons_succ]
      refine anyH_take (i := 28) (v := .bool true) rfl (some 56) rfl (by kernel_rfl) (by kernel_rfl) (by kernel_rfl) (fun _ _ _ h => by cases h.1) rfl (fun w0 hw0 => ex_pickT rfl rfl rfl) T7 ?_
      simp only [Act.put, List.setIfInBounds_toArray, List.set_cons_zero, List.set_cons_succ]
      refine anyH_val (i := 29) (by kernel_rfl) rfl (some 6) rfl rfl (ex_any rfl rfl) T7 ?_
      simp only [Act.put, List.setIfInBounds_toArray, List.set_cons_zero, List.set_cons_succ]
      exact wpAnyH_done (by kernel_rfl) ⟨rfl, _, _, _, _, _, _, _, _, _, _, _, _, _, _, _, _, _, _, _, _, _, _, _, _, _, _, _, _, _, _, _, _, _, _, _, _, _, _, _, _, _, _, _, _, _, _, _, _, _, _, _, _, _, _, _, _, E7, rfl⟩ _
    case beh2 =>
      rintro a W' ⟨y0, y1, y2, y3, y4, y5, y7, y8, y9, y10, y11, y12, y13, y14, y15, y16, y17, y18, y19, y20, y21, y22, y23, y24, y25, y26, y27, y28, y29, y30, y31, y32, y33, y34, y35, y36, y37, y38, y39, y40, y41, y42, y43, y44, y45, y46, y47, y48, y49, y50, y51, y52, y53, y54, y55, y56, hB, rfl⟩
      have HB := hide hB
      clear hB
      go_wp2_with fail
      go_ret
      exact ⟨rfl, HB.out⟩
  · have h70i : ¬ ((70 : Int) < m2) := by omega
    obtain rfl : n2 = m2 := by omega
    clear hmin
    go_wp2_with (first
      | (refine l_store 25 HS.out rfl rfl rfl rfl ?_)
      | (go_at_call 20; refine HFl.out.mono ?_; rintro e w2 ⟨rfl, b2⟩; refine stopHere ?_))
    unfold Hid
    have g2 := (b2.block w.heap.size (hp_lt HBV.out.1)).trans HBV.out.1
    have B2 : Below w.heap.size w w2 := HBV.out.2.trans (b2.mono HBV.out.2.size)
    clear y0 y1 y2 y3 y4 y5
    obtain ⟨y0, y1, y2, y3, y4, y5⟩ := cells6 g2
    have HFr' := hide (HFr.out w2 B2)
    have H2 := hide (And.intro g2 B2)
    clear g2 B2 b2 HFl HS HBV HFr
    go_wp2_with (go_at_call 21; refine HFr'.out.mono ?_; rintro e w3 ⟨rfl, b3⟩; refine stopHere ?_)
    unfold Hid
    have g3 := (b3.block w.heap.size (hp_lt H2.out.1)).trans H2.out.1
    have B3 : Below w.heap.size w w3 := H2.out.2.trans (b3.mono H2.out.2.size)
    have H3 := hide (And.intro g3 B3)
    clear y0 y1 y2 y3 y4 y5 g3 B3 b3 H2 HFr'
    go_wp2_with fail
    obtain ⟨X0, hX0⟩ : ∃ X0, w3.drew = X0 := ⟨_, rfl⟩
    have E0 : Below w.heap.size w X0 := by rw [← hX0]; exact H3.out.2.drew
    have ja : X0.heap[w.heap.size]? = some (.cells #[.int .u8 k, .string ty, .string fr, .string tt, .string id, .slice pa n1 pc] 25) := by rw [← hX0]; exact H3.out.1
    refine region_rel (S := fun W => Below X0.heap.size X0 W) (fun a W => ∃ y0 y1 y2 y3 y4 y5 y7 y8 y9 y10 y11 y12 y13 y14 y15 y16 y17 y18 y19 y20 y21 y22 y23 y24 y25 y26 y27 y28 y29 y30 y31 y32 y33 y34 y35 y36 y37 y38 y39 y40 y41 y42 y43 y44 y45 y46 y47 y48 y49 y50 y51 y52 y53 y54 y55 y56 : Value, Below w.heap.size w W ∧ a = { tmps := #[y0, y1, y2, y3, y4, y5, .bool true, y7, y8, y9, y10, y11, y12, y13, y14, y15, y16, y17, y18, y19, y20, y21, y22, y23, y24, y25, y26, y27, y28, y29, y30, y31, y32, y33, y34, y35, y36, y37, y38, y39, y40, y41, y42, y43, y44, y45, y46, y47, y48, y49, y50, y51, y52, y53, y54, y55, y56], defers := [] }) (by kernel_rfl) ?reg2 ?beh2
    case reg2 =>
      rw [hX0]
      have T0 : Below X0.heap.size X0 X0 := Below.refl _ _
      refine anyH_one (i := 0) (by kernel_rfl) ?_
      refine op_call rfl (some 28) rfl rfl #[] rfl (by simp) (fun _ _ => rfl) (HLV.out X0 (HG.out.1.below E0)) ?_
      rintro e X1 ⟨rfl, d1⟩
      refine ⟨_, rfl, T0.trans (d1.mono T0.size), ?_⟩
      simp only [Act.put, List.setIfInBounds_toArray, List.set_cons_zero, List.set_cons_succ]
      have T1 : Below X0.heap.size X0 X1 := T0.trans (d1.mono T0.size)
      have E1 : Below w.heap.size w X1 := E0.trans (T1.mono E0.size)
      refine anyH_take (i := 1) (v := .bool true) rfl (some 29) rfl (by kernel_rfl) (by kernel_rfl) (by kernel_rfl) (fun _ _ _ h => by cases h.1) rfl (fun w0 hw0 => by first | rfl | kernel_rfl) T1 ?_
      simp only [Act.put, List.setIfInBounds_toArray, List.set_cons_zero, List.set_cons_succ]
      refine anyH_take (i := 2) (v := .agg #[.int .u8 k, .string ty, .string fr, .string tt, .string id, .slice pa n1 pc]) rfl (some 30) rfl (by kernel_rfl) (by kernel_rfl) (by kernel_rfl) (fun _ _ _ h => by cases h.1) rfl (fun w0 hw0 => ex_load rfl rfl (run_load_st ((hw0.block _ (hp_lt ja)).trans ja))) T1 ?_
      simp only [Act.put, List.setIfInBounds_toArray, List.set_cons_zero, List.set_cons_succ]
      refine anyH_take (i := 3) (v := .slice la n2 lc) rfl (some 31) rfl (by kernel_rfl) (by kernel_rfl) (by kernel_rfl) (fun _ _ _ h => by cases h.1) rfl (fun w0 hw0 => by first | rfl | kernel_rfl) T1 ?_
      simp only [Act.put, List.setIfInBounds_toArray, List.set_cons_zero, List.set_cons_succ]
      refine anyH_take (i := 5) (v := .agg #[.int .u8 k, .string ty, .string fr, .string tt, .string id, .slice pa n1 pc]) rfl (some 33) rfl (by kernel_rfl) (by kernel_rfl) (by kernel_rfl) (fun _ _ _ h => by cases h.1) rfl (fun w0 hw0 => ex_load rfl rfl (run_load_st ((hw0.block _ (hp_lt ja)).trans ja))) T1 ?_
      simp only [Act.put, List.setIfInBounds_toArray, List.set_cons_zero, List.set_cons_succ]
      refine anyH_take (i := 6) (v := .slice la n2 lc) rfl (some 34) rfl (by kernel_rfl) (by kernel_rfl) (by kernel_rfl) (fun _ _ _ h => by cases h.1) rfl (fun w0 hw0 => by first | rfl | kernel_rfl) T1 ?_
      simp only [Act.put, List.setIfInBounds_toArray, List.set_cons_zero, List.set_cons_succ]
      refine anyH_one (i := 4) (by kernel_rfl) ?_
      refine op_call rfl (some 32) rfl rfl #[.agg #[.int .u8 k, .string ty, .string fr, .string tt, .string id, .slice pa n1 pc], .slice la n2 lc] rfl (by simp [Act.eval]) (fun _ _ => rfl) (HRs.out X1 E1) ?_
      rintro e X2 ⟨g1, c1, v1, rfl, hT1, d2⟩
      refine ⟨_, rfl, T1.trans (d2.mono T1.size), ?_⟩
      simp only [Act.put, List.setIfInBounds_toArray, List.set_cons_zero, List.set_cons_succ]
      have T2 : Below X0.heap.size X0 X2 := T1.trans (d2.mono T1.size)
      have E2 : Below w.heap.size w X2 := E0.trans (T2.mono E0.size)
      refine anyH_one (i := 7) (by kernel_rfl) ?_
      refine op_call rfl (some 35) rfl rfl #[.agg #[.int .u8 k, .string ty, .string fr, .string tt, .string id, .slice pa n1 pc], .slice la n2 lc] rfl (by simp [Act.eval]) (fun _ _ => rfl) (HRr.out X2 E2) ?_
      rintro e X3 ⟨g2, c2, v2, rfl, hT2, d3⟩
      refine ⟨_, rfl, T2.trans (d3.mono T2.size), ?_⟩
      simp only [Act.put, List.setIfInBounds_toArray, List.set_cons_zero, List.set_cons_succ]
      have T3 : Below X0.heap.size X0 X3 := T2.trans (d3.mono T2.size)
      have E3 : Below w.heap.size w X3 := E0.trans (T3.mono E0.size)
      have hT1a := (hT1.below d3).raise d3.size
      refine anyH_one (i := 8) (by kernel_rfl) ?_
      refine op_call rfl (some 36) rfl rfl #[.agg #[.int .u8 1, .string ty_result, .string tt, .string fr, .string id, .slice g1 n2 c1], .agg #[.int .u8 1, .string ty_result, .string tt, .string fr, .string id, .slice g2 n2 c2]] rfl (by simp [Act.eval]) (fun _ _ => rfl) (HSm.out X3 1 ty_result tt fr id g1 g2 c1 c2 us2 n2 v1 v2 HG.out.2 hT1a hT2) ?_
      rintro e X4 ⟨rfl, d4⟩
      refine ⟨_, rfl, T3.trans (d4.mono T3.size), ?_⟩
      simp only [Act.put, List.setIfInBounds_toArray, List.set_cons_zero, List.set_cons_succ]
      have T4 : Below X0.heap.size X0 X4 := T3.trans (d4.mono T3.size)
      have E4 : Below w.heap.size w X4 := E0.trans (T4.mono E0.size)
      refine anyH_take (i := 9) (v := .bool true) rfl (some 37) rfl (by kernel_rfl) (by kernel_rfl) (by kernel_rfl) (fun _ _ _ h => by cases h.1) rfl (fun w0 hw0 => ex_pickT rfl rfl rfl) T4 ?_
      simp only [Act.put, List.setIfInBounds_toArray, List.set_cons_zero, List.set_cons_succ]
      refine anyH_take (i := 10) (v := .bool true) rfl (some 38) rfl (by kernel_rfl) (by kernel_rfl) (by kernel_rfl) (fun _ _ _ h => by cases h.1) rfl (fun w0 hw0 => by first | rfl | kernel_rfl) T4 ?_
      simp only [Act.put, List.setIfInBounds_toArray, List.set_cons_zero, List.set_cons_succ]
      refine anyH_take (i := 11) (v := .agg #[.int .u8 k, .string ty, .string fr, .string tt, .string id, .slice pa n1 pc]) rfl (some 39) rfl (by kernel_rfl) (by kernel_rfl) (by kernel_rfl) (fun _ _ _ h => by cases h.1) rfl (fun w0 hw0 => ex_load rfl rfl (run_load_st ((hw0.block _ (hp_lt ja)).trans ja))) T4 ?_
      simp only [Act.put, List.setIfInBounds_toArray, List.set_cons_zero, List.set_cons_succ]
      refine anyH_take (i := 12) (v := .int .i64 c) rfl (some 40) rfl (by kernel_rfl) (by kernel_rfl) (by kernel_rfl) (fun _ _ _ h => by cases h.1) rfl (fun w0 hw0 => by first | rfl | kernel_rfl) T4 ?_
      simp only [Act.put, List.setIfInBounds_toArray, List.set_cons_zero, List.set_cons_succ]
      refine anyH_take (i := 14) (v := .agg #[.int .u8 k, .string ty, .string fr, .string tt, .string id, .slice pa n1 pc]) rfl (some 42) rfl (by kernel_rfl) (by kernel_rfl) (by kernel_rfl) (fun _ _ _ h => by cases h.1) rfl (fun w0 hw0 => ex_load rfl rfl (run_load_st ((hw0.block _ (hp_lt ja)).trans ja))) T4 ?_
      simp only [Act.put, List.setIfInBounds_toArray, List.set_cons_zero, List.set_cons_succ]
      refine anyH_take (i := 15) (v := .int .i64 c) rfl (some 43) rfl (by kernel_rfl) (by kernel_rfl) (by kernel_rfl) (fun _ _ _ h => by cases h.1) rfl (fun w0 hw0 => by first | rfl | kernel_rfl) T4 ?_
      simp only [Act.put, List.setIfInBounds_toArray, List.set_cons_zero, List.set_cons_succ]
      refine anyH_one (i := 13) (by kernel_rfl) ?_
      refine op_call rfl (some 41) rfl rfl #[.agg #[.int .u8 k, .string ty, .string fr, .string tt, .string id, .slice pa n1 pc], .int .i64 c] rfl (by simp [Act.eval]) (fun _ _ => rfl) (HEs.out X4 E4) ?_
      rintro e X5 ⟨g3, c3, v3, rfl, hT3, d5⟩
      refine ⟨_, rfl, T4.trans (d5.mono T4.size), ?_⟩
      simp only [Act.put, List.setIfInBounds_toArray, List.set_cons_zero, List.set_cons_succ]
      have T5 : Below X0.heap.size X0 X5 := T4.trans (d5.mono T4.size)
      have E5 : Below w.heap.size w X5 := E0.trans (T5.mono E0.size)
      refine anyH_one (i := 16) (by kernel_rfl) ?_
      refine op_call rfl (some 44) rfl rfl #[.agg #[.int .u8 k, .string ty, .string fr, .string tt, .string id, .slice pa n1 pc], .int .i64 c] rfl (by simp [Act.eval]) (fun _ _ => rfl) (HEr.out X5) ?_
      rintro e X6 ⟨g4, c4, v4, rfl, hT4, d6⟩
      refine ⟨_, rfl, T5.trans (d6.mono T5.size), ?_⟩
      simp only [Act.put, List.setIfInBounds_toArray, List.set_cons_zero, List.set_cons_succ]
      have T6 : Below X0.heap.size X0 X6 := T5.trans (d6.mono T5.size)
      have E6 : Below w.heap.size w X6 := E0.trans (T6.mono E0.size)
      have hT3a := (hT3.below d6).raise d6.size
      refine anyH_one (i := 17) (by kernel_rfl) ?_
      refine op_call rfl (some 45) rfl rfl #[.agg #[.int .u8 k, .string ty_error, .string tt, .string fr, .string id, .slice g3 4 c3], .agg #[.int .u8 k, .string ty_error, .string tt, .string fr, .string id, .slice g4 4 c4]] rfl (by simp [Act.eval]) (fun _ _ => rfl) (HSm.out X6 k ty_error tt fr id g3 g4 c3 c4 (errT c) 4 v3 v4 rfl hT3a hT4) ?_
      rintro e X7 ⟨rfl, d7⟩
      refine ⟨_, rfl, T6.trans (d7.mono T6.size), ?_⟩
      simp only [Act.put, List.setIfInBounds_toArray, List.set_cons_zero, List.set_cons_succ]
      have T7 : Below X0.heap.size X0 X7 := T6.trans (d7.mono T6.size)
      have E7 : Below w.heap.size w X7 := E0.trans (T7.mono E0.size)
      refine anyH_take (i := 18) (v := .bool true) rfl (some 46) rfl (by kernel_rfl) (by kernel_rfl) (by kernel_rfl) (fun _ _ _ h => by cases h.1) rfl (fun w0 hw0 => ex_pickT rfl rfl rfl) T7 ?_
      simp only [Act.put, List.setIfInBounds_toArray, List.set_cons_zero, List.set_cons_succ]
      refine anyH_take (i := 19) (v := .bool true) rfl (some 47) rfl (by kernel_rfl) (by kernel_rfl) (by kernel_rfl) (fun _ _ _ h => by cases h.1) rfl (fun w0 hw0 => by first | rfl | kernel_rfl) T7 ?_
      simp only [Act.put, List.setIfInBounds_toArray, List.set_cons_zero, List.set_cons_succ]
      refine anyH_take (i := 20) (v := .int .i64 fc) rfl (some 48) rfl (by kernel_rfl) (by kernel_rfl) (by kernel_rfl) (fun _ _ _ h => by cases h.1) rfl (fun w0 hw0 => by first | rfl | kernel_rfl) T7 ?_
      simp only [Act.put, List.setIfInBounds_toArray, List.set_cons_zero, List.set_cons_succ]
      refine anyH_take (i := 21) (v := .int .i64 fc) rfl (some 49) rfl (by kernel_rfl) (by kernel_rfl) (by kernel_rfl) (fun _ _ _ h => by cases h.1) rfl (fun w0 hw0 => by first | rfl | kernel_rfl) T7 ?_
      simp only [Act.put, List.setIfInBounds_toArray, List.set_cons_zero, List.set_cons_succ]
      refine anyH_take (i := 22) (v := .bool true) rfl (some 50) rfl (by kernel_rfl) (by kernel_rfl) (by kernel_rfl) (fun _ _ _ h => by cases h.1) rfl (fun w0 hw0 => ex_eqi rfl rfl rfl) T7 ?_
      simp only [Act.put, List.setIfInBounds_toArray, List.set_cons_zero, List.set_cons_succ]
      refine anyH_take (i := 23) (v := .bool true) rfl (some 51) rfl (by kernel_rfl) (by kernel_rfl) (by kernel_rfl) (fun _ _ _ h => by cases h.1) rfl (fun w0 hw0 => ex_pickT rfl rfl rfl) T7 ?_
      simp only [Act.put, List.setIfInBounds_toArray, List.set_cons_zero, List.set_cons_succ]
      refine anyH_take (i := 24) (v := .bool true) rfl (some 52) rfl (by kernel_rfl) (by kernel_rfl) (by kernel_rfl) (fun _ _ _ h => by cases h.1) rfl (fun w0 hw0 => by first | rfl | kernel_rfl) T7 ?_
      simp only [Act.put, List.setIfInBounds_toArray, List.set_cons_zero, List.set_cons_succ]
      refine anyH_take (i := 25) (v := .bool fq) rfl (some 53) rfl (by kernel_rfl) (by kernel_rfl) (by kernel_rfl) (fun _ _ _ h => by cases h.1) rfl (fun w0 hw0 => by first | rfl | kernel_rfl) T7 ?_
      simp only [Act.put, List.setIfInBounds_toArray, List.set_cons_zero, List.set_cons_succ]
      refine anyH_take (i := 26) (v := .bool fq) rfl (some 54) rfl (by kernel_rfl) (by kernel_rfl) (by kernel_rfl) (fun _ _ _ h => by cases h.1) rfl (fun w0 hw0 => by first | rfl | kernel_rfl) T7 ?_
      simp only [Act.put, List.setIfInBounds_toArray, List.set_cons_zero, List.set_cons_succ]
      refine anyH_take (i := 27) (v := .bool true) rfl (some 55) rfl (by kernel_rfl) (by kernel_rfl) (by kernel_rfl) (fun _ _ _ h => by cases h.1) rfl (fun w0 hw0 => ex_eqb rfl rfl rfl) T7 ?_
      simp only [Act.put, List.setIfInBounds_toArray, List.set_cons_zero, List.set_cons_succ]
      refine anyH_take (i := 28) (v := .bool true) rfl (some 56) rfl (by kernel_rfl) (by kernel_rfl) (by kernel_rfl) (fun _ _ _ h => by cases h.1) rfl (fun w0 hw0 => ex_pickT rfl rfl rfl) T7 ?_
      simp only [Act.put, List.setIfInBounds_toArray, List.set_cons_zero, List.set_cons_succ]
      refine anyH_val (i := 29) (by kernel_rfl) rfl (some 6) rfl rfl (ex_any rfl rfl) T7 ?_
      simp only [Act.put, List.setIfInBounds_toArray, List.set_cons_zero, List.set_cons_succ]
      exact wpAnyH_done (by kernel_rfl) ⟨rfl, _, _, _, _, _, _, _, _, _, _, _, _, _, _, _, _, _, _, _, _, _, _, _, _, _, _, _, _, _, _, _, _, _, _, _, _, _, _, _, _, _, _, _, _, _, _, _, _, _, _, _, _, _, _, _, _, E7, rfl⟩ _
    case beh2 =>
      rintro a W' ⟨y0, y1, y2, y3, y4, y5, y7, y8, y9, y10, y11, y12, y13, y14, y15, y16, y17, y18, y19, y20, y21, y22, y23, y24, y25, y26, y27, y28, y29, y30, y31, y32, y33, y34, y35, y36, y37, y38, y39, y40, y41, y42, y43, y44, y45, y46, y47, y48, y49, y50, y51, y52, y53, y54, y55, y56, hB, rfl⟩
      have HB := hide hB
      clear hB
      go_wp2_with fail
      go_ret
      exact ⟨rfl, HB.out⟩
end Go.Proofs.YtpknifioflagaaaDoor
