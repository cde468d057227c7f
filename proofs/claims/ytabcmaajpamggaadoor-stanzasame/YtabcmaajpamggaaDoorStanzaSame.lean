/- StanzaSame. -/
import Derived.Test.YtabcmaajpamggaaDoorSt14
namespace Go.Proofs.YtabcmaajpamggaaDoor
open Go.RowKit Go.Shelf

theorem ex_eqb {o : Oper} {a : Act} {w : World} {x y : Operand} {s : Bool} (ho : o.op = .binOp .eql 4 x y 4) (hx : a.eval x = .bool s) (hy : a.eval y = .bool s) : (execOp a.eval o).run Tryd.prog w = .ok (.value (.bool true)) w := by
  unfold execOp
  simp only [ho, hx, hy]
  go_simp
theorem ex_pickT {o : Oper} {a : Act} {w : World} {x y z : Operand} {v : Value} (ho : o.op = .pick x y z) (hx : a.eval x = .bool true) (hy : a.eval y = v) : (execOp a.eval o).run Tryd.prog w = .ok (.value v) w := by
  unfold execOp
  simp only [ho, hx, hy]
  go_simp
theorem ex_any {o : Oper} {a : Act} {w : World} {s : Operand} {v : Value} (ho : o.op = .assign s) (hs : a.eval s = v) : (execOp a.eval o).run Tryd.prog w = .ok (.value v) w := by
  unfold execOp
  simp [ho, hs]
theorem tells_is {p : Prop} {e : Ending} {q : Bool} (h : Tells p e) (hq : q = true ↔ p) : e = .returned (.bool q) := by
  rcases h with ⟨h1, rfl⟩ | ⟨h1, rfl⟩
  · rw [hq.2 h1]
  · cases q with
    | false => rfl
    | true => exact absurd (hq.1 rfl) h1
theorem TokMem.first {n₀ : Nat} {w : World} {ao : Option Addr} {ts : List Tok} {av : Nat → Option Addr × Nat} (h : TokMem n₀ w ao ts av) : TokMem n₀ w ao (ts.take 70) av := h.take 70
set_option maxRecDepth 100000 in
set_option maxHeartbeats 8000000 in
theorem stanzaSame_any (k1 : Int) (ty1 fr1 tt1 id1 : ByteArray) (pa1 : Option Addr) (pc1 : Nat) (ts1 : List Tok) (av1 : Nat → Option Addr × Nat) (k2 : Int) (ty2 fr2 tt2 id2 : ByteArray) (pa2 : Option Addr) (pc2 : Nat) (ts2 : List Tok) (av2 : Nat → Option Addr × Nat) (w : World) (hT1 : TokMem w.heap.size w pa1 ts1 av1) (hT2 : TokMem w.heap.size w pa2 ts2 av2) (hc1 : ts1.length ≤ pc1) (hc2 : ts2.length ≤ pc2) (hE : Env6 w) :
    Calls Tryd.prog 4 #[.agg #[.int .u8 k1, .string ty1, .string fr1, .string tt1, .string id1, .slice pa1 ts1.length pc1], .agg #[.int .u8 k2, .string ty2, .string fr2, .string tt2, .string id2, .slice pa2 ts2.length pc2]] w fun e w' => e = .returned (.bool true) ∧ Below w.heap.size w w' := by
  obtain ⟨q, hq⟩ : ∃ q : Bool, (q = true ↔ (SameSt k1 ty1 fr1 tt1 id1 (ts1.take 70) k2 ty2 fr2 tt2 id2 (ts2.take 70))) := by
    by_cases h : (SameSt k1 ty1 fr1 tt1 id1 (ts1.take 70) k2 ty2 fr2 tt2 id2 (ts2.take 70))
    · exact ⟨true, by simp [h]⟩
    · exact ⟨false, by simp [h]⟩
  have hq2 : q = true ↔ SameSt k2 ty2 fr2 tt2 id2 (ts2.take 70) k1 ty1 fr1 tt1 id1 (ts1.take 70) := by
    rw [hq]
    unfold SameSt
    constructor
    · rintro ⟨a, b, c, d, e, f⟩
      exact ⟨a.symm, b.symm, c.symm, d.symm, e.symm, f.symm⟩
    · rintro ⟨a, b, c, d, e, f⟩
      exact ⟨a.symm, b.symm, c.symm, d.symm, e.symm, f.symm⟩
  have mem1 : ∀ V, Below w.heap.size w V → TokMem V.heap.size V pa1 (ts1.take 70) av1 := fun V hV => ((hT1.below hV).raise hV.size).first
  have mem2 : ∀ V, Below w.heap.size w V → TokMem V.heap.size V pa2 (ts2.take 70) av2 := fun V hV => ((hT2.below hV).raise hV.size).first
  have HF1 := hide fun (V : World) => few6_any k1 ty1 fr1 tt1 id1 pa1 pc1 ts1 V hc1 hT1.1
  have HF2 := hide fun (V : World) => few6_any k2 ty2 fr2 tt2 id2 pa2 pc2 ts2 V hc2 hT2.1
  have HS12 := hide fun (V : World) (h1 : TokMem V.heap.size V pa1 (ts1.take 70) av1) (h2 : TokMem V.heap.size V pa2 (ts2.take 70) av2) => (stSame_any k1 ty1 fr1 tt1 id1 pa1 pc1 (ts1.take 70) av1 k2 ty2 fr2 tt2 id2 pa2 pc2 (ts2.take 70) av2 V h1 h2).mono (R' := fun e w' => e = .returned (.bool q) ∧ Below V.heap.size V w') (fun e w' h => ⟨tells_is h.1 hq, h.2⟩)
  have HR12 := hide fun (V : World) (h1 : TokMem V.heap.size V pa1 (ts1.take 70) av1) (h2 : TokMem V.heap.size V pa2 (ts2.take 70) av2) => (rSame6_any k1 ty1 fr1 tt1 id1 pa1 pc1 (ts1.take 70) av1 k2 ty2 fr2 tt2 id2 pa2 pc2 (ts2.take 70) av2 V h1 h2).mono (R' := fun e w' => e = .returned (.bool q) ∧ Below V.heap.size V w') (fun e w' h => ⟨tells_is h.1 hq, h.2⟩)
  have HS21 := hide fun (V : World) (h1 : TokMem V.heap.size V pa1 (ts1.take 70) av1) (h2 : TokMem V.heap.size V pa2 (ts2.take 70) av2) => (stSame_any k2 ty2 fr2 tt2 id2 pa2 pc2 (ts2.take 70) av2 k1 ty1 fr1 tt1 id1 pa1 pc1 (ts1.take 70) av1 V h2 h1).mono (R' := fun e w' => e = .returned (.bool q) ∧ Below V.heap.size V w') (fun e w' h => ⟨tells_is h.1 hq2, h.2⟩)
  have HS11 := hide fun (V : World) (h1 : TokMem V.heap.size V pa1 (ts1.take 70) av1) => (stSame_any k1 ty1 fr1 tt1 id1 pa1 pc1 (ts1.take 70) av1 k1 ty1 fr1 tt1 id1 pa1 pc1 (ts1.take 70) av1 V h1 h1).mono (R' := fun e w' => e = .returned (.bool true) ∧ Below V.heap.size V w') (fun e w' h => ⟨tells_is h.1 (by simp [SameSt]), h.2⟩)
  have HLV := hide fun (V : World) (hV : Env6 V) => live_any V hV
  have HE := hide hE
  obtain ⟨m1, hm1⟩ : ∃ m1, ts1.length = m1 := ⟨_, rfl⟩
  obtain ⟨m2, hm2⟩ : ∃ m2, ts2.length = m2 := ⟨_, rfl⟩
  obtain ⟨n1, hn1⟩ : ∃ n1, (ts1.take 70).length = n1 := ⟨_, rfl⟩
  obtain ⟨n2, hn2⟩ : ∃ n2, (ts2.take 70).length = n2 := ⟨_, rfl⟩
  rw [hm1, hn1] at HF1
  rw [hm2, hn2] at HF2
  rw [hn1, hn2] at HS12 HR12 HS21
  rw [hn1] at HS11
  rw [hm1, hm2]
  obtain ⟨Wa, hWa, aa, ba, za⟩ := newV w 25 #[.int .u8 k1, .string ty1, .string fr1, .string tt1, .string id1, .slice pa1 m1 pc1]
  obtain ⟨Wb, hWb, ab, bb, zb⟩ := newV Wa 25 #[.int .u8 k2, .string ty2, .string fr2, .string tt2, .string id2, .slice pa2 m2 pc2]
  rw [za] at ab
  have aB := (bb.block w.heap.size (by omega)).trans aa
  have bB : Below w.heap.size w Wb := ba.trans (bb.mono (by omega))
  have H0 := hide (And.intro aB (And.intro ab bB))
  clear aa ba ab bb aB bB hT1 hT2 hE hm1 hm2 hn1 hn2 hc1 hc2 hq hq2
  go_enter Tryd.func4, Tryd.ntmps4
  go_wp2_with fail
  obtain ⟨V0, hV0⟩ : ∃ V0, Wb.drew = V0 := ⟨_, rfl⟩
  have BV : Below w.heap.size w V0 := by rw [← hV0]; exact H0.out.2.2.drew
  have fa : V0.heap[w.heap.size]? = some (.cells #[.int .u8 k1, .string ty1, .string fr1, .string tt1, .string id1, .slice pa1 m1 pc1] 25) := by rw [← hV0]; exact H0.out.1
  have fb : V0.heap[w.heap.size + 1]? = some (.cells #[.int .u8 k2, .string ty2, .string fr2, .string tt2, .string id2, .slice pa2 m2 pc2] 25) := by rw [← hV0]; exact H0.out.2.1
  refine region_rel (S := fun _ => True) (fun a W => ∃ x5 x6 x7 x8 x9 x10 x11 x12 x13 x14 x15 x16 x17 x18 x19 x20 x21 x22 x23 x24 x25 x26 x27 x28 x29 x30 x31 x32 : Value, W.heap[w.heap.size]? = some (.cells #[.int .u8 k1, .string ty1, .string fr1, .string tt1, .string id1, .slice pa1 n1 pc1] 25) ∧ W.heap[w.heap.size + 1]? = some (.cells #[.int .u8 k2, .string ty2, .string fr2, .string tt2, .string id2, .slice pa2 n2 pc2] 25) ∧ Below w.heap.size w W ∧ a = { tmps := #[.agg #[.int .u8 k1, .string ty1, .string fr1, .string tt1, .string id1, .slice pa1 m1 pc1], .agg #[.int .u8 k2, .string ty2, .string fr2, .string tt2, .string id2, .slice pa2 m2 pc2], .pointer (some ⟨w.heap.size, 0, none⟩), .pointer (some ⟨w.heap.size + 1, 0, none⟩), .bool false, x5, x6, x7, x8, x9, x10, x11, x12, x13, x14, x15, x16, x17, x18, x19, x20, x21, x22, x23, x24, x25, x26, x27, x28, x29, x30, x31, x32], defers := [] }) (by kernel_rfl) ?reg ?beh
  case reg =>
    rw [hV0]
    refine anyH_two (i := 0) (j := 2) (by kernel_rfl) ?_ ?_
    · refine op_run rfl (some 5) rfl rfl (ex_load rfl rfl (run_load_st fa)) ?_
      refine ⟨trivial, ?_⟩
      simp only [Act.put, List.setIfInBounds_toArray, List.set_cons_zero, List.set_cons_succ]
      refine anyH_two (i := 1) (j := 2) (by kernel_rfl) ?_ ?_
      · refine op_call rfl (some 6) rfl rfl #[.agg #[.int .u8 k1, .string ty1, .string fr1, .string tt1, .string id1, .slice pa1 m1 pc1]] rfl (by simp [Act.eval]) (fun _ _ => rfl) (HF1.out V0) ?_
        rintro e V1 ⟨rfl, c1⟩
        refine ⟨_, rfl, trivial, ?_⟩
        simp only [Act.put, List.setIfInBounds_toArray, List.set_cons_zero, List.set_cons_succ]
        have fa1 := (c1.block _ (hp_lt fa)).trans fa
        have fb1 := (c1.block _ (hp_lt fb)).trans fb
        refine anyH_one (i := 2) (by kernel_rfl) ?_
        refine op_run rfl (some 7) rfl rfl (ex_load rfl rfl (run_load_st fb1)) ?_
        refine ⟨trivial, ?_⟩
        simp only [Act.put, List.setIfInBounds_toArray, List.set_cons_zero, List.set_cons_succ]
        refine anyH_one (i := 3) (by kernel_rfl) ?_
        refine op_call rfl (some 8) rfl rfl #[.agg #[.int .u8 k2, .string ty2, .string fr2, .string tt2, .string id2, .slice pa2 m2 pc2]] rfl (by simp [Act.eval]) (fun _ _ => rfl) (HF2.out V1) ?_
        rintro e V2 ⟨rfl, c2⟩
        refine ⟨_, rfl, trivial, ?_⟩
        simp only [Act.put, List.setIfInBounds_toArray, List.set_cons_zero, List.set_cons_succ]
        have b02 : Below V0.heap.size V0 V2 := c1.trans (c2.mono c1.size)
        have hz2 := b02.size
        have ga := (b02.block _ (hp_lt fa)).trans fa
        have gb := (b02.block _ (hp_lt fb)).trans fb
        obtain ⟨V3, hV3⟩ : ∃ W, ((((((V2.setCell ⟨w.heap.size, 0, none⟩ (.int .u8 k1)).setCell ⟨w.heap.size, 1, none⟩ (.string ty1)).setCell ⟨w.heap.size, 2, none⟩ (.string fr1)).setCell ⟨w.heap.size, 3, none⟩ (.string tt1)).setCell ⟨w.heap.size, 4, none⟩ (.string id1)).setCell ⟨w.heap.size, 5, none⟩ (.slice pa1 n1 pc1)) = W := ⟨_, rfl⟩
        have ga3 : V3.heap[w.heap.size]? = some (.cells #[.int .u8 k1, .string ty1, .string fr1, .string tt1, .string id1, .slice pa1 n1 pc1] 25) := by rw [← hV3]; exact set6 ga _ _ _ _ _ _
        have gb3 : V3.heap[w.heap.size + 1]? = some (.cells #[.int .u8 k2, .string ty2, .string fr2, .string tt2, .string id2, .slice pa2 m2 pc2] 25) := by rw [← hV3]; exact (other6 _ _ _ _ _ _ (by omega)).trans gb
        obtain ⟨V4, hV4⟩ : ∃ W, ((((((V3.setCell ⟨w.heap.size + 1, 0, none⟩ (.int .u8 k2)).setCell ⟨w.heap.size + 1, 1, none⟩ (.string ty2)).setCell ⟨w.heap.size + 1, 2, none⟩ (.string fr2)).setCell ⟨w.heap.size + 1, 3, none⟩ (.string tt2)).setCell ⟨w.heap.size + 1, 4, none⟩ (.string id2)).setCell ⟨w.heap.size + 1, 5, none⟩ (.slice pa2 n2 pc2)) = W := ⟨_, rfl⟩
        have ga4 : V4.heap[w.heap.size]? = some (.cells #[.int .u8 k1, .string ty1, .string fr1, .string tt1, .string id1, .slice pa1 n1 pc1] 25) := by rw [← hV4]; exact (other6 _ _ _ _ _ _ (by omega)).trans ga3
        have gb4 : V4.heap[w.heap.size + 1]? = some (.cells #[.int .u8 k2, .string ty2, .string fr2, .string tt2, .string id2, .slice pa2 n2 pc2] 25) := by rw [← hV4]; exact set6 gb3 _ _ _ _ _ _
        have BV2 : Below w.heap.size w V2 := BV.trans (b02.mono BV.size)
        have BV3 : Below w.heap.size w V3 := by rw [← hV3]; exact below6 BV2 (Nat.le_refl _) _ _ _ _ _ _
        have BV4 : Below w.heap.size w V4 := by rw [← hV4]; exact below6 BV3 (by omega) _ _ _ _ _ _
        refine anyH_one (i := 4) (by kernel_rfl) ?_
        refine op_store rfl rfl rfl (ex_store (u := .agg #[.int .u8 k1, .string ty1, .string fr1, .string tt1, .string id1, .slice pa1 n1 pc1]) rfl rfl rfl (run_store_st ga _ _ _ _ _ _ _ _)) ?_
        rw [hV3]
        refine ⟨trivial, ?_⟩
        simp only [Act.put]
        refine anyH_one (i := 5) (by kernel_rfl) ?_
        refine op_store rfl rfl rfl (ex_store (u := .agg #[.int .u8 k2, .string ty2, .string fr2, .string tt2, .string id2, .slice pa2 n2 pc2]) rfl rfl rfl (run_store_st gb3 _ _ _ _ _ _ _ _)) ?_
        rw [hV4]
        refine ⟨trivial, ?_⟩
        simp only [Act.put]
        exact wpAnyH_done (by kernel_rfl) ⟨rfl, _, _, _, _, _, _, _, _, _, _, _, _, _, _, _, _, _, _, _, _, _, _, _, _, _, _, _, _, ga4, gb4, BV4, rfl⟩ _
      · refine op_run rfl (some 7) rfl rfl (ex_load rfl rfl (run_load_st fb)) ?_
        refine ⟨trivial, ?_⟩
        simp only [Act.put, List.setIfInBounds_toArray, List.set_cons_zero, List.set_cons_succ]
        refine anyH_one (i := 1) (by kernel_rfl) ?_
        refine op_call rfl (some 6) rfl rfl #[.agg #[.int .u8 k1, .string ty1, .string fr1, .string tt1, .string id1, .slice pa1 m1 pc1]] rfl (by simp [Act.eval]) (fun _ _ => rfl) (HF1.out V0) ?_
        rintro e V1 ⟨rfl, c1⟩
        refine ⟨_, rfl, trivial, ?_⟩
        simp only [Act.put, List.setIfInBounds_toArray, List.set_cons_zero, List.set_cons_succ]
        have fa1 := (c1.block _ (hp_lt fa)).trans fa
        have fb1 := (c1.block _ (hp_lt fb)).trans fb
        refine anyH_one (i := 3) (by kernel_rfl) ?_
        refine op_call rfl (some 8) rfl rfl #[.agg #[.int .u8 k2, .string ty2, .string fr2, .string tt2, .string id2, .slice pa2 m2 pc2]] rfl (by simp [Act.eval]) (fun _ _ => rfl) (HF2.out V1) ?_
        rintro e V2 ⟨rfl, c2⟩
        refine ⟨_, rfl, trivial, ?_⟩
        simp only [Act.put, List.setIfInBounds_toArray, List.set_cons_zero, List.set_cons_succ]
        have b02 : Below V0.heap.size V0 V2 := c1.trans (c2.mono c1.size)
        have hz2 := b02.size
        have ga := (b02.block _ (hp_lt fa)).trans fa
        have gb := (b02.block _ (hp_lt fb)).trans fb
        obtain ⟨V3, hV3⟩ : ∃ W, ((((((V2.setCell ⟨w.heap.size, 0, none⟩ (.int .u8 k1)).setCell ⟨w.heap.size, 1, none⟩ (.string ty1)).setCell ⟨w.heap.size, 2, none⟩ (.string fr1)).setCell ⟨w.heap.size, 3, none⟩ (.string tt1)).setCell ⟨w.heap.size, 4, none⟩ (.string id1)).setCell ⟨w.heap.size, 5, none⟩ (.slice pa1 n1 pc1)) = W := ⟨_, rfl⟩
        have ga3 : V3.heap[w.heap.size]? = some (.cells #[.int .u8 k1, .string ty1, .string fr1, .string tt1, .string id1, .slice pa1 n1 pc1] 25) := by rw [← hV3]; exact set6 ga _ _ _ _ _ _
        have gb3 : V3.heap[w.heap.size + 1]? = some (.cells #[.int .u8 k2, .string ty2, .string fr2, .string tt2, .string id2, .slice pa2 m2 pc2] 25) := by rw [← hV3]; exact (other6 _ _ _ _ _ _ (by omega)).trans gb
        obtain ⟨V4, hV4⟩ : ∃ W, ((((((V3.setCell ⟨w.heap.size + 1, 0, none⟩ (.int .u8 k2)).setCell ⟨w.heap.size + 1, 1, none⟩ (.string ty2)).setCell ⟨w.heap.size + 1, 2, none⟩ (.string fr2)).setCell ⟨w.heap.size + 1, 3, none⟩ (.string tt2)).setCell ⟨w.heap.size + 1, 4, none⟩ (.string id2)).setCell ⟨w.heap.size + 1, 5, none⟩ (.slice pa2 n2 pc2)) = W := ⟨_, rfl⟩
        have ga4 : V4.heap[w.heap.size]? = some (.cells #[.int .u8 k1, .string ty1, .string fr1, .string tt1, .string id1, .slice pa1 n1 pc1] 25) := by rw [← hV4]; exact (other6 _ _ _ _ _ _ (by omega)).trans ga3
        have gb4 : V4.heap[w.heap.size + 1]? = some (.cells #[.int .u8 k2, .string ty2, .string fr2, .string tt2, .string id2, .slice pa2 n2 pc2] 25) := by rw [← hV4]; exact set6 gb3 _ _ _ _ _ _
        have BV2 : Below w.heap.size w V2 := BV.trans (b02.mono BV.size)
        have BV3 : Below w.heap.size w V3 := by rw [← hV3]; exact below6 BV2 (Nat.le_refl _) _ _ _ _ _ _
        have BV4 : Below w.heap.size w V4 := by rw [← hV4]; exact below6 BV3 (by omega) _ _ _ _ _ _
        refine anyH_one (i := 4) (by kernel_rfl) ?_
        refine op_store rfl rfl rfl (ex_store (u := .agg #[.int .u8 k1, .string ty1, .string fr1, .string tt1, .string id1, .slice pa1 n1 pc1]) rfl rfl rfl (run_store_st ga _ _ _ _ _ _ _ _)) ?_
        rw [hV3]
        refine ⟨trivial, ?_⟩
        simp only [Act.put]
        refine anyH_one (i := 5) (by kernel_rfl) ?_
        refine op_store rfl rfl rfl (ex_store (u := .agg #[.int .u8 k2, .string ty2, .string fr2, .string tt2, .string id2, .slice pa2 n2 pc2]) rfl rfl rfl (run_store_st gb3 _ _ _ _ _ _ _ _)) ?_
        rw [hV4]
        refine ⟨trivial, ?_⟩
        simp only [Act.put]
        exact wpAnyH_done (by kernel_rfl) ⟨rfl, _, _, _, _, _, _, _, _, _, _, _, _, _, _, _, _, _, _, _, _, _, _, _, _, _, _, _, _, ga4, gb4, BV4, rfl⟩ _
    · refine op_run rfl (some 7) rfl rfl (ex_load rfl rfl (run_load_st fb)) ?_
      refine ⟨trivial, ?_⟩
      simp only [Act.put, List.setIfInBounds_toArray, List.set_cons_zero, List.set_cons_succ]
      refine anyH_one (i := 0) (by kernel_rfl) ?_
      refine op_run rfl (some 5) rfl rfl (ex_load rfl rfl (run_load_st fa)) ?_
      refine ⟨trivial, ?_⟩
      simp only [Act.put, List.setIfInBounds_toArray, List.set_cons_zero, List.set_cons_succ]
      refine anyH_one (i := 1) (by kernel_rfl) ?_
      refine op_call rfl (some 6) rfl rfl #[.agg #[.int .u8 k1, .string ty1, .string fr1, .string tt1, .string id1, .slice pa1 m1 pc1]] rfl (by simp [Act.eval]) (fun _ _ => rfl) (HF1.out V0) ?_
      rintro e V1 ⟨rfl, c1⟩
      refine ⟨_, rfl, trivial, ?_⟩
      simp only [Act.put, List.setIfInBounds_toArray, List.set_cons_zero, List.set_cons_succ]
      have fa1 := (c1.block _ (hp_lt fa)).trans fa
      have fb1 := (c1.block _ (hp_lt fb)).trans fb
      refine anyH_one (i := 3) (by kernel_rfl) ?_
      refine op_call rfl (some 8) rfl rfl #[.agg #[.int .u8 k2, .string ty2, .string fr2, .string tt2, .string id2, .slice pa2 m2 pc2]] rfl (by simp [Act.eval]) (fun _ _ => rfl) (HF2.out V1) ?_
      rintro e V2 ⟨rfl, c2⟩
      refine ⟨_, rfl, trivial, ?_⟩
      simp only [Act.put, List.setIfInBounds_toArray, List.set_cons_zero, List.set_cons_succ]
      have b02 : Below V0.heap.size V0 V2 := c1.trans (c2.mono c1.size)
      have hz2 := b02.size
      have ga := (b02.block _ (hp_lt fa)).trans fa
      have gb := (b02.block _ (hp_lt fb)).trans fb
      obtain ⟨V3, hV3⟩ : ∃ W, ((((((V2.setCell ⟨w.heap.size, 0, none⟩ (.int .u8 k1)).setCell ⟨w.heap.size, 1, none⟩ (.string ty1)).setCell ⟨w.heap.size, 2, none⟩ (.string fr1)).setCell ⟨w.heap.size, 3, none⟩ (.string tt1)).setCell ⟨w.heap.size, 4, none⟩ (.string id1)).setCell ⟨w.heap.size, 5, none⟩ (.slice pa1 n1 pc1)) = W := ⟨_, rfl⟩
      have ga3 : V3.heap[w.heap.size]? = some (.cells #[.int .u8 k1, .string ty1, .string fr1, .string tt1, .string id1, .slice pa1 n1 pc1] 25) := by rw [← hV3]; exact set6 ga _ _ _ _ _ _
      have gb3 : V3.heap[w.heap.size + 1]? = some (.cells #[.int .u8 k2, .string ty2, .string fr2, .string tt2, .string id2, .slice pa2 m2 pc2] 25) := by rw [← hV3]; exact (other6 _ _ _ _ _ _ (by omega)).trans gb
      obtain ⟨V4, hV4⟩ : ∃ W, ((((((V3.setCell ⟨w.heap.size + 1, 0, none⟩ (.int .u8 k2)).setCell ⟨w.heap.size + 1, 1, none⟩ (.string ty2)).setCell ⟨w.heap.size + 1, 2, none⟩ (.string fr2)).setCell ⟨w.heap.size + 1, 3, none⟩ (.string tt2)).setCell ⟨w.heap.size + 1, 4, none⟩ (.string id2)).setCell ⟨w.heap.size + 1, 5, none⟩ (.slice pa2 n2 pc2)) = W := ⟨_, rfl⟩
      have ga4 : V4.heap[w.heap.size]? = some (.cells #[.int .u8 k1, .string ty1, .string fr1, .string tt1, .string id1, .slice pa1 n1 pc1] 25) := by rw [← hV4]; exact (other6 _ _ _ _ _ _ (by omega)).trans ga3
      have gb4 : V4.heap[w.heap.size + 1]? = some (.cells #[.int .u8 k2, .string ty2, .string fr2, .string tt2, .string id2, .slice pa2 n2 pc2] 25) := by rw [← hV4]; exact set6 gb3 _ _ _ _ _ _
      have BV2 : Below w.heap.size w V2 := BV.trans (b02.mono BV.size)
      have BV3 : Below w.heap.size w V3 := by rw [← hV3]; exact below6 BV2 (Nat.le_refl _) _ _ _ _ _ _
      have BV4 : Below w.heap.size w V4 := by rw [← hV4]; exact below6 BV3 (by omega) _ _ _ _ _ _
      refine anyH_one (i := 4) (by kernel_rfl) ?_
      refine op_store rfl rfl rfl (ex_store (u := .agg #[.int .u8 k1, .string ty1, .string fr1, .string tt1, .string id1, .slice pa1 n1 pc1]) rfl rfl rfl (run_store_st ga _ _ _ _ _ _ _ _)) ?_
      rw [hV3]
      refine ⟨trivial, ?_⟩
      simp only [Act.put]
      refine anyH_one (i := 5) (by kernel_rfl) ?_
      refine op_store rfl rfl rfl (ex_store (u := .agg #[.int .u8 k2, .string ty2, .string fr2, .string tt2, .string id2, .slice pa2 n2 pc2]) rfl rfl rfl (run_store_st gb3 _ _ _ _ _ _ _ _)) ?_
      rw [hV4]
      refine ⟨trivial, ?_⟩
      simp only [Act.put]
      exact wpAnyH_done (by kernel_rfl) ⟨rfl, _, _, _, _, _, _, _, _, _, _, _, _, _, _, _, _, _, _, _, _, _, _, _, _, _, _, _, _, ga4, gb4, BV4, rfl⟩ _
  case beh =>
    rintro a W ⟨x5, x6, x7, x8, x9, x10, x11, x12, x13, x14, x15, x16, x17, x18, x19, x20, x21, x22, x23, x24, x25, x26, x27, x28, x29, x30, x31, x32, ga, gb, hB, rfl⟩
    have H1 := hide (And.intro ga (And.intro gb hB))
    clear ga gb hB fa fb BV
    go_wp2_with fail
    obtain ⟨X0, hX0⟩ : ∃ X0, W.drew = X0 := ⟨_, rfl⟩
    have E0 : Below w.heap.size w X0 := by rw [← hX0]; exact H1.out.2.2.drew
    have ja : X0.heap[w.heap.size]? = some (.cells #[.int .u8 k1, .string ty1, .string fr1, .string tt1, .string id1, .slice pa1 n1 pc1] 25) := by rw [← hX0]; exact H1.out.1
    have jb : X0.heap[w.heap.size + 1]? = some (.cells #[.int .u8 k2, .string ty2, .string fr2, .string tt2, .string id2, .slice pa2 n2 pc2] 25) := by rw [← hX0]; exact H1.out.2.1
    refine region_rel (S := fun W => Below X0.heap.size X0 W) (fun a W => ∃ y0 y1 y2 y3 y5 y6 y7 y8 y9 y10 y11 y12 y13 y14 y15 y16 y17 y18 y19 y20 y21 y22 y23 y24 y25 y26 y27 y28 y29 y30 y31 y32 : Value, Below w.heap.size w W ∧ a = { tmps := #[y0, y1, y2, y3, .bool true, y5, y6, y7, y8, y9, y10, y11, y12, y13, y14, y15, y16, y17, y18, y19, y20, y21, y22, y23, y24, y25, y26, y27, y28, y29, y30, y31, y32], defers := [] }) (by kernel_rfl) ?reg2 ?beh2
    case reg2 =>
      rw [hX0]
      have T0 : Below X0.heap.size X0 X0 := Below.refl _ _
      refine anyH_one (i := 0) (by kernel_rfl) ?_
      refine op_call rfl (some 9) rfl rfl #[] rfl (by simp) (fun _ _ => rfl) (HLV.out X0 (HE.out.below E0)) ?_
      rintro e X1 ⟨rfl, d1⟩
      refine ⟨_, rfl, T0.trans (d1.mono T0.size), ?_⟩
      simp only [Act.put, List.setIfInBounds_toArray, List.set_cons_zero, List.set_cons_succ]
      have T1 : Below X0.heap.size X0 X1 := T0.trans (d1.mono T0.size)
      have E1 : Below w.heap.size w X1 := E0.trans (T1.mono E0.size)
      refine anyH_take (i := 1) (v := .bool true) rfl (some 10) rfl (by kernel_rfl) (by kernel_rfl) (by kernel_rfl) (fun _ _ _ h => by cases h.1) rfl (fun w0 hw0 => by first | rfl | kernel_rfl) T1 ?_
      simp only [Act.put, List.setIfInBounds_toArray, List.set_cons_zero, List.set_cons_succ]
      refine anyH_take (i := 2) (v := .agg #[.int .u8 k1, .string ty1, .string fr1, .string tt1, .string id1, .slice pa1 n1 pc1]) rfl (some 11) rfl (by kernel_rfl) (by kernel_rfl) (by kernel_rfl) (fun _ _ _ h => by cases h.1) rfl (fun w0 hw0 => ex_load rfl rfl (run_load_st ((hw0.block _ (hp_lt ja)).trans ja))) T1 ?_
      simp only [Act.put, List.setIfInBounds_toArray, List.set_cons_zero, List.set_cons_succ]
      refine anyH_take (i := 3) (v := .agg #[.int .u8 k2, .string ty2, .string fr2, .string tt2, .string id2, .slice pa2 n2 pc2]) rfl (some 12) rfl (by kernel_rfl) (by kernel_rfl) (by kernel_rfl) (fun _ _ _ h => by cases h.1) rfl (fun w0 hw0 => ex_load rfl rfl (run_load_st ((hw0.block _ (hp_lt jb)).trans jb))) T1 ?_
      simp only [Act.put, List.setIfInBounds_toArray, List.set_cons_zero, List.set_cons_succ]
      refine anyH_take (i := 5) (v := .agg #[.int .u8 k1, .string ty1, .string fr1, .string tt1, .string id1, .slice pa1 n1 pc1]) rfl (some 14) rfl (by kernel_rfl) (by kernel_rfl) (by kernel_rfl) (fun _ _ _ h => by cases h.1) rfl (fun w0 hw0 => ex_load rfl rfl (run_load_st ((hw0.block _ (hp_lt ja)).trans ja))) T1 ?_
      simp only [Act.put, List.setIfInBounds_toArray, List.set_cons_zero, List.set_cons_succ]
      refine anyH_take (i := 6) (v := .agg #[.int .u8 k2, .string ty2, .string fr2, .string tt2, .string id2, .slice pa2 n2 pc2]) rfl (some 15) rfl (by kernel_rfl) (by kernel_rfl) (by kernel_rfl) (fun _ _ _ h => by cases h.1) rfl (fun w0 hw0 => ex_load rfl rfl (run_load_st ((hw0.block _ (hp_lt jb)).trans jb))) T1 ?_
      simp only [Act.put, List.setIfInBounds_toArray, List.set_cons_zero, List.set_cons_succ]
      refine anyH_one (i := 4) (by kernel_rfl) ?_
      refine op_call rfl (some 13) rfl rfl #[.agg #[.int .u8 k1, .string ty1, .string fr1, .string tt1, .string id1, .slice pa1 n1 pc1], .agg #[.int .u8 k2, .string ty2, .string fr2, .string tt2, .string id2, .slice pa2 n2 pc2]] rfl (by simp [Act.eval]) (fun _ _ => rfl) (HS12.out X1 (mem1 X1 E1) (mem2 X1 E1)) ?_
      rintro e X2 ⟨rfl, d2⟩
      refine ⟨_, rfl, T1.trans (d2.mono T1.size), ?_⟩
      simp only [Act.put, List.setIfInBounds_toArray, List.set_cons_zero, List.set_cons_succ]
      have T2 : Below X0.heap.size X0 X2 := T1.trans (d2.mono T1.size)
      have E2 : Below w.heap.size w X2 := E0.trans (T2.mono E0.size)
      refine anyH_one (i := 7) (by kernel_rfl) ?_
      refine op_call rfl (some 16) rfl rfl #[.agg #[.int .u8 k1, .string ty1, .string fr1, .string tt1, .string id1, .slice pa1 n1 pc1], .agg #[.int .u8 k2, .string ty2, .string fr2, .string tt2, .string id2, .slice pa2 n2 pc2]] rfl (by simp [Act.eval]) (fun _ _ => rfl) (HR12.out X2 (mem1 X2 E2) (mem2 X2 E2)) ?_
      rintro e X3 ⟨rfl, d3⟩
      refine ⟨_, rfl, T2.trans (d3.mono T2.size), ?_⟩
      simp only [Act.put, List.setIfInBounds_toArray, List.set_cons_zero, List.set_cons_succ]
      have T3 : Below X0.heap.size X0 X3 := T2.trans (d3.mono T2.size)
      have E3 : Below w.heap.size w X3 := E0.trans (T3.mono E0.size)
      refine anyH_take (i := 8) (v := .bool true) rfl (some 17) rfl (by kernel_rfl) (by kernel_rfl) (by kernel_rfl) (fun _ _ _ h => by cases h.1) rfl (fun w0 hw0 => ex_eqb rfl rfl rfl) T3 ?_
      simp only [Act.put, List.setIfInBounds_toArray, List.set_cons_zero, List.set_cons_succ]
      refine anyH_take (i := 9) (v := .bool true) rfl (some 18) rfl (by kernel_rfl) (by kernel_rfl) (by kernel_rfl) (fun _ _ _ h => by cases h.1) rfl (fun w0 hw0 => ex_pickT rfl rfl rfl) T3 ?_
      simp only [Act.put, List.setIfInBounds_toArray, List.set_cons_zero, List.set_cons_succ]
      refine anyH_take (i := 10) (v := .bool true) rfl (some 19) rfl (by kernel_rfl) (by kernel_rfl) (by kernel_rfl) (fun _ _ _ h => by cases h.1) rfl (fun w0 hw0 => by first | rfl | kernel_rfl) T3 ?_
      simp only [Act.put, List.setIfInBounds_toArray, List.set_cons_zero, List.set_cons_succ]
      refine anyH_take (i := 11) (v := .agg #[.int .u8 k1, .string ty1, .string fr1, .string tt1, .string id1, .slice pa1 n1 pc1]) rfl (some 20) rfl (by kernel_rfl) (by kernel_rfl) (by kernel_rfl) (fun _ _ _ h => by cases h.1) rfl (fun w0 hw0 => ex_load rfl rfl (run_load_st ((hw0.block _ (hp_lt ja)).trans ja))) T3 ?_
      simp only [Act.put, List.setIfInBounds_toArray, List.set_cons_zero, List.set_cons_succ]
      refine anyH_take (i := 12) (v := .agg #[.int .u8 k2, .string ty2, .string fr2, .string tt2, .string id2, .slice pa2 n2 pc2]) rfl (some 21) rfl (by kernel_rfl) (by kernel_rfl) (by kernel_rfl) (fun _ _ _ h => by cases h.1) rfl (fun w0 hw0 => ex_load rfl rfl (run_load_st ((hw0.block _ (hp_lt jb)).trans jb))) T3 ?_
      simp only [Act.put, List.setIfInBounds_toArray, List.set_cons_zero, List.set_cons_succ]
      refine anyH_take (i := 14) (v := .agg #[.int .u8 k2, .string ty2, .string fr2, .string tt2, .string id2, .slice pa2 n2 pc2]) rfl (some 23) rfl (by kernel_rfl) (by kernel_rfl) (by kernel_rfl) (fun _ _ _ h => by cases h.1) rfl (fun w0 hw0 => ex_load rfl rfl (run_load_st ((hw0.block _ (hp_lt jb)).trans jb))) T3 ?_
      simp only [Act.put, List.setIfInBounds_toArray, List.set_cons_zero, List.set_cons_succ]
      refine anyH_take (i := 15) (v := .agg #[.int .u8 k1, .string ty1, .string fr1, .string tt1, .string id1, .slice pa1 n1 pc1]) rfl (some 24) rfl (by kernel_rfl) (by kernel_rfl) (by kernel_rfl) (fun _ _ _ h => by cases h.1) rfl (fun w0 hw0 => ex_load rfl rfl (run_load_st ((hw0.block _ (hp_lt ja)).trans ja))) T3 ?_
      simp only [Act.put, List.setIfInBounds_toArray, List.set_cons_zero, List.set_cons_succ]
      refine anyH_one (i := 13) (by kernel_rfl) ?_
      refine op_call rfl (some 22) rfl rfl #[.agg #[.int .u8 k1, .string ty1, .string fr1, .string tt1, .string id1, .slice pa1 n1 pc1], .agg #[.int .u8 k2, .string ty2, .string fr2, .string tt2, .string id2, .slice pa2 n2 pc2]] rfl (by simp [Act.eval]) (fun _ _ => rfl) (HS12.out X3 (mem1 X3 E3) (mem2 X3 E3)) ?_
      rintro e X4 ⟨rfl, d4⟩
      refine ⟨_, rfl, T3.trans (d4.mono T3.size), ?_⟩
      simp only [Act.put, List.setIfInBounds_toArray, List.set_cons_zero, List.set_cons_succ]
      have T4 : Below X0.heap.size X0 X4 := T3.trans (d4.mono T3.size)
      have E4 : Below w.heap.size w X4 := E0.trans (T4.mono E0.size)
      refine anyH_one (i := 16) (by kernel_rfl) ?_
      refine op_call rfl (some 25) rfl rfl #[.agg #[.int .u8 k2, .string ty2, .string fr2, .string tt2, .string id2, .slice pa2 n2 pc2], .agg #[.int .u8 k1, .string ty1, .string fr1, .string tt1, .string id1, .slice pa1 n1 pc1]] rfl (by simp [Act.eval]) (fun _ _ => rfl) (HS21.out X4 (mem1 X4 E4) (mem2 X4 E4)) ?_
      rintro e X5 ⟨rfl, d5⟩
      refine ⟨_, rfl, T4.trans (d5.mono T4.size), ?_⟩
      simp only [Act.put, List.setIfInBounds_toArray, List.set_cons_zero, List.set_cons_succ]
      have T5 : Below X0.heap.size X0 X5 := T4.trans (d5.mono T4.size)
      have E5 : Below w.heap.size w X5 := E0.trans (T5.mono E0.size)
      refine anyH_take (i := 17) (v := .bool true) rfl (some 26) rfl (by kernel_rfl) (by kernel_rfl) (by kernel_rfl) (fun _ _ _ h => by cases h.1) rfl (fun w0 hw0 => ex_eqb rfl rfl rfl) T5 ?_
      simp only [Act.put, List.setIfInBounds_toArray, List.set_cons_zero, List.set_cons_succ]
      refine anyH_take (i := 18) (v := .bool true) rfl (some 27) rfl (by kernel_rfl) (by kernel_rfl) (by kernel_rfl) (fun _ _ _ h => by cases h.1) rfl (fun w0 hw0 => ex_pickT rfl rfl rfl) T5 ?_
      simp only [Act.put, List.setIfInBounds_toArray, List.set_cons_zero, List.set_cons_succ]
      refine anyH_take (i := 19) (v := .bool true) rfl (some 28) rfl (by kernel_rfl) (by kernel_rfl) (by kernel_rfl) (fun _ _ _ h => by cases h.1) rfl (fun w0 hw0 => by first | rfl | kernel_rfl) T5 ?_
      simp only [Act.put, List.setIfInBounds_toArray, List.set_cons_zero, List.set_cons_succ]
      refine anyH_take (i := 20) (v := .agg #[.int .u8 k1, .string ty1, .string fr1, .string tt1, .string id1, .slice pa1 n1 pc1]) rfl (some 29) rfl (by kernel_rfl) (by kernel_rfl) (by kernel_rfl) (fun _ _ _ h => by cases h.1) rfl (fun w0 hw0 => ex_load rfl rfl (run_load_st ((hw0.block _ (hp_lt ja)).trans ja))) T5 ?_
      simp only [Act.put, List.setIfInBounds_toArray, List.set_cons_zero, List.set_cons_succ]
      refine anyH_take (i := 21) (v := .agg #[.int .u8 k1, .string ty1, .string fr1, .string tt1, .string id1, .slice pa1 n1 pc1]) rfl (some 30) rfl (by kernel_rfl) (by kernel_rfl) (by kernel_rfl) (fun _ _ _ h => by cases h.1) rfl (fun w0 hw0 => ex_load rfl rfl (run_load_st ((hw0.block _ (hp_lt ja)).trans ja))) T5 ?_
      simp only [Act.put, List.setIfInBounds_toArray, List.set_cons_zero, List.set_cons_succ]
      refine anyH_one (i := 22) (by kernel_rfl) ?_
      refine op_call rfl (some 31) rfl rfl #[.agg #[.int .u8 k1, .string ty1, .string fr1, .string tt1, .string id1, .slice pa1 n1 pc1], .agg #[.int .u8 k1, .string ty1, .string fr1, .string tt1, .string id1, .slice pa1 n1 pc1]] rfl (by simp [Act.eval]) (fun _ _ => rfl) (HS11.out X5 (mem1 X5 E5)) ?_
      rintro e X6 ⟨rfl, d6⟩
      refine ⟨_, rfl, T5.trans (d6.mono T5.size), ?_⟩
      simp only [Act.put, List.setIfInBounds_toArray, List.set_cons_zero, List.set_cons_succ]
      have T6 : Below X0.heap.size X0 X6 := T5.trans (d6.mono T5.size)
      have E6 : Below w.heap.size w X6 := E0.trans (T6.mono E0.size)
      refine anyH_take (i := 23) (v := .bool true) rfl (some 32) rfl (by kernel_rfl) (by kernel_rfl) (by kernel_rfl) (fun _ _ _ h => by cases h.1) rfl (fun w0 hw0 => ex_pickT rfl rfl rfl) T6 ?_
      simp only [Act.put, List.setIfInBounds_toArray, List.set_cons_zero, List.set_cons_succ]
      refine anyH_val (i := 24) (by kernel_rfl) rfl (some 4) rfl rfl (ex_any rfl rfl) T6 ?_
      simp only [Act.put, List.setIfInBounds_toArray, List.set_cons_zero, List.set_cons_succ]
      exact wpAnyH_done (by kernel_rfl) ⟨rfl, _, _, _, _, _, _, _, _, _, _, _, _, _, _, _, _, _, _, _, _, _, _, _, _, _, _, _, _, _, _, _, _, E6, rfl⟩ _
    case beh2 =>
      rintro a W' ⟨y0, y1, y2, y3, y5, y6, y7, y8, y9, y10, y11, y12, y13, y14, y15, y16, y17, y18, y19, y20, y21, y22, y23, y24, y25, y26, y27, y28, y29, y30, y31, y32, hB, rfl⟩
      have HB := hide hB
      clear hB
      go_wp2_with fail
      go_ret
      exact ⟨rfl, HB.out⟩
end Go.Proofs.YtabcmaajpamggaaDoor
