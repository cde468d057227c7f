/- Lists of a node: an element is put behind all others. -/
import Derived.Test.YtffjmkngdjbjlaaGreatDoorNe4
namespace Go.Proofs.YtffjmkngdjbjlaaGreatDoor
open Go.RowKit

theorem ex_lssI {o : Oper} {a : Act} {w : World} {x y : Operand} {s t : Int} {b : Bool} (ho : o.op = .binOp .lss 3 x y 3) (hx : a.eval x = .int .i64 s) (hy : a.eval y = .int .i64 t) (hb : decide (s < t) = b) : (execOp a.eval o).run Tryz.prog w = .ok (.value (.bool b)) w := by
  unfold execOp
  simp only [ho, hx, hy]
  go_simp
theorem ex_lssS {o : Oper} {a : Act} {w : World} {x y : Operand} {s t : ByteArray} {b : Bool} (ho : o.op = .binOp .lss 9 x y 9) (hx : a.eval x = .string s) (hy : a.eval y = .string t) (hb : Op.bytesLess s.toList t.toList = b) : (execOp a.eval o).run Tryz.prog w = .ok (.value (.bool b)) w := by
  unfold execOp
  simp only [ho, hx, hy]
  go_simp
theorem ex_sliceI {o : Oper} {a : Act} {w w' : World} {T : TypeId} {n : Nat} {ps : Array (Nat × Operand)} {v : Value} {us : Array (Nat × Value)} (ho : o.op = .buildSlice T n ps) (hp : (ps.map fun x => (x.1, a.eval x.2)) = us) (hr : (Instr.buildSlice T n us).run Tryz.prog w = .ok v w') : (execOp a.eval o).run Tryz.prog w = .ok (.value v) w' := by
  unfold execOp
  simp only [ho]
  rw [show (ps.map fun (i, x) => (i, a.eval x)) = us from hp]
  simp [hr]
theorem one_s (x : ByteArray × Bool × Int) (W : World) : ∃ W3, (Instr.buildSlice 27 1 #[(0, .agg #[.string x.1, .bool x.2.1, .int .i64 x.2.2])]).run Tryz.prog W = .ok (.slice (some ⟨W.heap.size, 0, none⟩) 1 1) W3 ∧ W3.heap[W.heap.size]? = some (.cells #[.string x.1, .bool x.2.1, .int .i64 x.2.2] 43) ∧ Below W.heap.size W W3 :=
  ⟨W.alloc (.cells #[.string x.1, .bool x.2.1, .int .i64 x.2.2] 43), by kernel_rfl, World.alloc_heap_new _ _, (Below.refl _ W).alloc (Nat.le_refl _) _⟩
set_option maxRecDepth 100000 in
set_option maxHeartbeats 4000000 in
theorem insEnd_s (L : List (ByteArray × Bool × Int)) (x : ByteArray × Bool × Int) (v : Value) (bx base : Nat) (w : World) (hown : w.ownsRow base 43 3 v L.length (sC L)) (hx : w.heap[bx]? = some (.cells #[.string x.1, .bool x.2.1, .int .i64 x.2.2] 43)) (hl : L.length ≤ 1000000) (hb : base ≤ w.heap.size) :
    Calls Tryz.prog 45 #[v, .int .i64 L.length, .slice (some ⟨bx, 0, none⟩) 1 1] w fun e w' => ∃ v', e = .returned v' ∧ w'.ownsRow base 43 3 v' (L ++ [x]).length (sC (L ++ [x])) ∧ Below base w w' := by
  have hone : SubMem w.heap.size w (some ⟨bx, 0, none⟩) [x] := by
    refine ⟨by simp, fun i y hy => ?_⟩
    match i, hy with
    | 0, hy =>
      simp at hy
      subst hy
      exact ⟨bx, 0, rfl, (Array.getElem?_eq_some_iff.1 hx).1, by simp [World.cell?, hx], by simp [World.cell?, hx], by simp [World.cell?, hx]⟩
  obtain ⟨v1, w1, hap, hown1, hgr, _⟩ := app_s (T := 27) (cap := 1) hown hone hb (by simp; omega)
  obtain ⟨g0, c0, rfl, _, hlc, _, _⟩ := own_s hown hl
  have hb1 : Below base w w1 := (Below.refl _ w).grown hgr hb (fun g e => own_base hown g e)
  obtain ⟨kk, hkk⟩ : ∃ kk, (L ++ [x]).length = kk := ⟨_, rfl⟩
  rw [hkk] at hown1 ⊢
  have H := hide (And.intro hown1 hb1)
  obtain ⟨m, hml⟩ : ∃ m, L.length = m := ⟨_, rfl⟩
  rw [hml] at hap hlc hl ⊢
  have h1 : ([x] : List (ByteArray × Bool × Int)).length = 1 := rfl
  rw [h1] at hap
  have hmc : (m : Int) ≤ c0 := by omega
  clear hown hone hx hown1 hgr hb1 hkk hml
  by_cases hcm : c0 = m
  · subst hcm
    go_enter Tryz.func45, Tryz.ntmps45
    go_wp2_with (at_builtin; refine stopNd ?_)
    unfold Hid
    refine l_val rfl _ (ex_appN rfl rfl rfl hap) ?_
    obtain ⟨g1, c1, hv1⟩ := own_shape1 H.out.1
    subst hv1
    clear hap
    go_wp2_with fail
    go_ret
    exact ⟨_, rfl, H.out.1, H.out.2⟩
  · go_enter Tryz.func45, Tryz.ntmps45
    go_wp2_with (at_builtin; refine stopNd ?_)
    unfold Hid
    refine l_val rfl _ (ex_appN rfl rfl rfl hap) ?_
    obtain ⟨g1, c1, hv1⟩ := own_shape1 H.out.1
    subst hv1
    clear hap
    go_wp2_with fail
    go_ret
    exact ⟨_, rfl, H.out.1, H.out.2⟩
set_option maxRecDepth 100000 in
set_option maxHeartbeats 4000000 in
theorem withEnd_s (ao : Option Addr) (cap0 : Nat) (L : List (ByteArray × Bool × Int)) (x : ByteArray × Bool × Int) (w : World) (hm : SubMem w.heap.size w ao L) (hlt : ∀ y ∈ woSub x.1 L, y.1.toList < x.1.toList) :
    Calls Tryz.prog 16 #[.slice ao L.length cap0, .func (.func 17) #[] #[], .agg #[.string x.1, .bool x.2.1, .int .i64 x.2.2]] w fun e w' => ∃ v', e = .returned v' ∧ w'.ownsRow w.heap.size 43 3 v' (woSub x.1 L ++ [x]).length (sC (woSub x.1 L ++ [x])) ∧ Below w.heap.size w w' := by
  have hl := hm.1
  obtain ⟨Wa, hWa⟩ : ∃ Wa, w.alloc (.cells #[.string x.1, .bool x.2.1, .int .i64 x.2.2] 43) = Wa := ⟨_, rfl⟩
  have fa := World.alloc_heap_new w (.cells #[.string x.1, .bool x.2.1, .int .i64 x.2.2] 43)
  have ba : Below w.heap.size w Wa := by rw [← hWa]; exact (Below.refl _ w).alloc (Nat.le_refl _) _
  have za : Wa.heap.size = w.heap.size + 1 := by rw [← hWa]; simp
  rw [hWa] at fa
  have HK := hide (sKey_any x Wa)
  have HH := hide (And.intro hm (And.intro fa (And.intro ba (And.intro za hlt))))
  have HW := hide hWa
  obtain ⟨m0, hml⟩ : ∃ m0, L.length = m0 := ⟨_, rfl⟩
  obtain ⟨F, hF⟩ : ∃ F, woSub x.1 L = F := ⟨_, rfl⟩
  have hFl : F.length ≤ 1000000 := by rw [← hF]; exact Nat.le_trans (List.length_filter_le _ _) hl
  have HF := hide (And.intro hF hml)
  rw [hF]
  rw [hml]
  rw [← hWa] at HK
  clear hm fa ba za hlt hF hWa hml hl
  go_enter Tryz.func16, Tryz.ntmps16
  go_wp2_with fail
  refine HK.out.mono ?_
  rintro e w1 ⟨rfl, b1⟩
  have B1 : Below w.heap.size w w1 := by
    have h : _ = Wa := HW.out
    rw [h] at b1
    exact HH.out.2.2.1.trans (b1.mono HH.out.2.2.1.size)
  have f1 : w1.heap[w.heap.size]? = some (.cells #[.string x.1, .bool x.2.1, .int .i64 x.2.2] 43) := by
    have h : _ = Wa := HW.out
    rw [h] at b1
    exact (b1.block _ (by have := HH.out.2.2.2.1; omega)).trans HH.out.2.1
  have hwo := without_s ao cap0 L x.1 w1 ((HH.out.1.below B1).raise B1.size)
  rw [HF.out.1, HF.out.2] at hwo
  have HWo := hide hwo
  have H1 := hide (And.intro B1 f1)
  clear hwo B1 f1 b1 HK
  go_wp2_with fail
  refine HWo.out.mono ?_
  rintro e w2 ⟨v2, rfl, hown2, b2⟩
  have B2 : Below w.heap.size w w2 := H1.out.1.trans (b2.mono H1.out.1.size)
  have hq1 := (Array.getElem?_eq_some_iff.1 H1.out.2).1
  have f2 := (b2.block _ hq1).trans H1.out.2
  obtain ⟨ga, gc, rfl, hm2, hgc, _, hg2⟩ := own_s hown2 hFl
  obtain ⟨m, hmF⟩ : ∃ m, F.length = m := ⟨_, rfl⟩
  have hm6 : m ≤ 1000000 := by omega
  obtain ⟨q, hq⟩ : ∃ q, w.heap.size = q := ⟨_, rfl⟩
  have hbase := b2.size
  have hq2 : w.heap.size < w1.heap.size := hq1
  have H2 := hide (And.intro B2 (And.intro f2 (And.intro hm2 (And.intro hown2 (And.intro hmF (And.intro hq2 hg2))))))
  rw [hmF]
  clear B2 f2 hm2 hown2 b2 hq1 HWo hmF hg2 hq2
  go_wp2_with fail
  go_loopw [7] (fun iv wr => ∃ k : Nat, k ≤ m ∧ iv = .int .i64 k ∧ Below w2.heap.size w2 wr) (fun iv _ => m - (intOf iv).toNat)
  case atStart => exact ⟨0, Nat.zero_le _, rfl, Below.refl _ _⟩
  case round =>
    obtain ⟨k, hkm, rfl, hbw⟩ := hrel
    have fq := (hbw.block _ (by have := H2.out.2.2.2.2.2.1; have := H2.out.1.size; omega)).trans H2.out.2.1
    rw [hq] at fq
    have hqr : q < wr.heap.size := (Array.getElem?_eq_some_iff.1 fq).1
    obtain ⟨b0, b1, b2, _, _, _⟩ := cells_s fq
    by_cases hlt : (k : Int) < m
    · have hklt : k < m := by omega
      obtain ⟨y, hy⟩ : ∃ y, F[k]? = some y := ⟨_, List.getElem?_eq_getElem (by have := H2.out.2.2.2.2.1; omega)⟩
      obtain ⟨g, off, hge, hgl, c0, c1, c2⟩ := H2.out.2.2.1.2 k y hy
      have hoff : off = 0 := (H2.out.2.2.2.2.2.2 _ hge).2
      subst hoff
      have hcmp : decide ((k : Int) < m) = true := decide_eq_true hlt
      have hles : Op.bytesLess y.1.toList x.1.toList = true := less_yes (HH.out.2.2.2.2 y (by rw [HF.out.1]; exact List.mem_of_getElem? hy))
      rw [hge]
      go_wp2_with fail
      obtain ⟨V0, hV0⟩ : ∃ V0, wr.drew = V0 := ⟨_, rfl⟩
      have B0 : Below wr.heap.size wr V0 := by rw [← hV0]; exact (Below.refl _ wr).drew
      have hqV : q < V0.heap.size := Nat.lt_of_lt_of_le hqr B0.size
      have hgV : g < V0.heap.size := by have := hbw.size; have := B0.size; omega
      replace c0 := (B0.cell (p := ⟨g, _, none⟩) (Nat.lt_of_lt_of_le hgl hbw.size)).trans ((hbw.cell (p := ⟨g, _, none⟩) hgl).trans c0)
      replace c1 := (B0.cell (p := ⟨g, _, none⟩) (Nat.lt_of_lt_of_le hgl hbw.size)).trans ((hbw.cell (p := ⟨g, _, none⟩) hgl).trans c1)
      replace c2 := (B0.cell (p := ⟨g, _, none⟩) (Nat.lt_of_lt_of_le hgl hbw.size)).trans ((hbw.cell (p := ⟨g, _, none⟩) hgl).trans c2)
      replace b0 := (B0.cell (p := ⟨q, _, none⟩) hqr).trans b0
      replace b1 := (B0.cell (p := ⟨q, _, none⟩) hqr).trans b1
      replace b2 := (B0.cell (p := ⟨q, _, none⟩) hqr).trans b2
      refine region_rel (S := fun V => Below V0.heap.size V0 V) (fun a Wz => ∃ xx : Nat → Value, (Below wr.heap.size wr Wz) ∧ a = { tmps := #[.slice (some ⟨g, 0, none⟩) m gc, .func (.func 17) #[] #[], .agg #[.string x.1, .bool x.2.1, .int .i64 x.2.2], undef, undef, .pointer (some ⟨q, 0, none⟩), .slice none 0 0, .int .i64 k, .slice ao m0 cap0, .func (.func 17) #[] #[], .func (.func 17) #[] #[], .agg #[.string x.1, .bool x.2.1, .int .i64 x.2.2], .string x.1, .slice (some ⟨g, 0, none⟩) m gc, xx 14, xx 15, xx 16, xx 17, xx 18, xx 19, xx 20, xx 21, xx 22, xx 23, xx 24, xx 25, xx 26, xx 27, xx 28, .bool true, xx 30, xx 31, undef, undef, undef, undef, undef], defers := [] }) (by kernel_rfl) ?anyt ?fint
      case anyt =>
        rw [hV0]
        clear hV0
        have S0 : Below V0.heap.size V0 V0 := Below.refl _ _
        refine anyH_take (i := 0) (v := .int .i64 k) rfl (some 14) rfl (by kernel_rfl) (by kernel_rfl) (by kernel_rfl) (fun _ _ _ h => by cases h.1) (by kernel_rfl) (fun w0 hw0 => by first | rfl | kernel_rfl) S0 ?_
        simp only [Act.put, List.setIfInBounds_toArray, List.set_cons_zero, List.set_cons_succ]
        refine anyH_take (i := 1) (v := .slice (some ⟨g, 0, none⟩) m gc) rfl (some 15) rfl (by kernel_rfl) (by kernel_rfl) (by kernel_rfl) (fun _ _ _ h => by cases h.1) (by kernel_rfl) (fun w0 hw0 => by first | rfl | kernel_rfl) S0 ?_
        simp only [Act.put, List.setIfInBounds_toArray, List.set_cons_zero, List.set_cons_succ]
        refine anyH_take (i := 2) (v := .int .i64 m) rfl (some 16) rfl (by kernel_rfl) (by kernel_rfl) (by kernel_rfl) (fun _ _ _ h => by cases h.1) (by kernel_rfl) (fun w0 hw0 => by first | rfl | kernel_rfl) S0 ?_
        simp only [Act.put, List.setIfInBounds_toArray, List.set_cons_zero, List.set_cons_succ]
        refine anyH_take (i := 3) (v := .bool true) rfl (some 17) rfl (by kernel_rfl) (by kernel_rfl) (by kernel_rfl) (fun _ _ _ h => by cases h.1) (by kernel_rfl) (fun _ _ => ex_lssI rfl rfl rfl hcmp) S0 ?_
        simp only [Act.put, List.setIfInBounds_toArray, List.set_cons_zero, List.set_cons_succ]
        refine anyH_take (i := 4) (v := .bool true) rfl (some 18) rfl (by kernel_rfl) (by kernel_rfl) (by kernel_rfl) (fun _ _ _ h => by cases h.1) (by kernel_rfl) (fun w0 hw0 => by first | rfl | kernel_rfl) S0 ?_
        simp only [Act.put, List.setIfInBounds_toArray, List.set_cons_zero, List.set_cons_succ]
        refine anyH_take (i := 5) (v := .func (.func 17) #[] #[]) rfl (some 19) rfl (by kernel_rfl) (by kernel_rfl) (by kernel_rfl) (fun _ _ _ h => by cases h.1) (by kernel_rfl) (fun w0 hw0 => by first | rfl | kernel_rfl) S0 ?_
        simp only [Act.put, List.setIfInBounds_toArray, List.set_cons_zero, List.set_cons_succ]
        refine anyH_take (i := 6) (v := .slice (some ⟨g, 0, none⟩) m gc) rfl (some 20) rfl (by kernel_rfl) (by kernel_rfl) (by kernel_rfl) (fun _ _ _ h => by cases h.1) (by kernel_rfl) (fun w0 hw0 => by first | rfl | kernel_rfl) S0 ?_
        simp only [Act.put, List.setIfInBounds_toArray, List.set_cons_zero, List.set_cons_succ]
        refine anyH_take (i := 7) (v := .int .i64 k) rfl (some 21) rfl (by kernel_rfl) (by kernel_rfl) (by kernel_rfl) (fun _ _ _ h => by cases h.1) (by kernel_rfl) (fun w0 hw0 => by first | rfl | kernel_rfl) S0 ?_
        simp only [Act.put, List.setIfInBounds_toArray, List.set_cons_zero, List.set_cons_succ]
        refine anyH_take (i := 8) (v := .pointer (some ⟨g, 0 + k * 3, none⟩)) rfl (some 22) rfl (by kernel_rfl) (by kernel_rfl) (by kernel_rfl) (fun _ _ _ h => by cases h.1) (by kernel_rfl) (fun _ _ => ex_idxSub rfl rfl rfl hklt) S0 ?_
        simp only [Act.put, List.setIfInBounds_toArray, List.set_cons_zero, List.set_cons_succ]
        refine anyH_take (i := 9) (v := .agg #[.string y.1, .bool y.2.1, .int .i64 y.2.2]) rfl (some 23) rfl (by kernel_rfl) (by kernel_rfl) (by kernel_rfl) (fun _ _ _ h => by cases h.1) (by kernel_rfl) (fun w0 hw0 => ex_load rfl rfl (load_s ((hw0.cell (p := ⟨g, _, none⟩) hgV).trans c0) ((hw0.cell (p := ⟨g, _, none⟩) hgV).trans c1) ((hw0.cell (p := ⟨g, _, none⟩) hgV).trans c2))) S0 ?_
        simp only [Act.put, List.setIfInBounds_toArray, List.set_cons_zero, List.set_cons_succ]
        refine anyH_take (i := 11) (v := .func (.func 17) #[] #[]) rfl (some 25) rfl (by kernel_rfl) (by kernel_rfl) (by kernel_rfl) (fun _ _ _ h => by cases h.1) (by kernel_rfl) (fun w0 hw0 => by first | rfl | kernel_rfl) S0 ?_
        simp only [Act.put, List.setIfInBounds_toArray, List.set_cons_zero, List.set_cons_succ]
        refine anyH_take (i := 12) (v := .agg #[.string x.1, .bool x.2.1, .int .i64 x.2.2]) rfl (some 26) rfl (by kernel_rfl) (by kernel_rfl) (by kernel_rfl) (fun _ _ _ h => by cases h.1) (by kernel_rfl) (fun w0 hw0 => ex_load rfl rfl (load_s ((hw0.cell (p := ⟨q, 0, none⟩) hqV).trans b0) ((hw0.cell (p := ⟨q, 1, none⟩) hqV).trans b1) ((hw0.cell (p := ⟨q, 2, none⟩) hqV).trans b2))) S0 ?_
        simp only [Act.put, List.setIfInBounds_toArray, List.set_cons_zero, List.set_cons_succ]
        refine anyH_one (i := 10) (by kernel_rfl) ?_
        refine op_callv rfl (some 24) rfl (by kernel_rfl) #[.agg #[.string y.1, .bool y.2.1, .int .i64 y.2.2]] rfl rfl (by simp [Act.eval]) (fun _ _ => rfl) (sKey_any y V0) ?_
        rintro e V1 ⟨rfl, c1_⟩
        have b1 : Below V0.heap.size V0 V1 := c1_
        refine ⟨_, rfl, S0.trans (b1.mono S0.size), ?_⟩
        simp only [Act.put, List.setIfInBounds_toArray, List.set_cons_zero, List.set_cons_succ]
        refine anyH_more (fun V => Below V1.heap.size V1 V) (fun V hV => S0.trans ((b1.trans (hV.mono b1.size)).mono S0.size)) ?_
        have S1 : Below V1.heap.size V1 V1 := Below.refl _ _
        have B1 : Below wr.heap.size wr V1 := B0.trans (b1.mono B0.size)
        refine anyH_one (i := 13) (by kernel_rfl) ?_
        refine op_callv rfl (some 27) rfl (by kernel_rfl) #[.agg #[.string x.1, .bool x.2.1, .int .i64 x.2.2]] rfl rfl (by simp [Act.eval]) (fun _ _ => rfl) (sKey_any x V1) ?_
        rintro e V2 ⟨rfl, c2_⟩
        have b2 : Below V1.heap.size V1 V2 := c2_
        refine ⟨_, rfl, S1.trans (b2.mono S1.size), ?_⟩
        simp only [Act.put, List.setIfInBounds_toArray, List.set_cons_zero, List.set_cons_succ]
        refine anyH_more (fun V => Below V2.heap.size V2 V) (fun V hV => S1.trans ((b2.trans (hV.mono b2.size)).mono S1.size)) ?_
        have S2 : Below V2.heap.size V2 V2 := Below.refl _ _
        have B2 : Below wr.heap.size wr V2 := B1.trans (b2.mono B1.size)
        refine anyH_take (i := 14) (v := .bool true) rfl (some 28) rfl (by kernel_rfl) (by kernel_rfl) (by kernel_rfl) (fun _ _ _ h => by cases h.1) (by kernel_rfl) (fun _ _ => ex_lssS rfl rfl rfl hles) S2 ?_
        simp only [Act.put, List.setIfInBounds_toArray, List.set_cons_zero, List.set_cons_succ]
        refine anyH_val (i := 15) (by kernel_rfl) rfl (some 29) rfl (by kernel_rfl) (ex_pkT rfl rfl rfl) S2 ?_
        simp only [Act.put, List.setIfInBounds_toArray, List.set_cons_zero, List.set_cons_succ]
        exact wpAnyH_done (by kernel_rfl) ⟨rfl, fill (B2) (by kernel_rfl)⟩ _
      case fint =>
        rintro a W ⟨xx, hB, rfl⟩
        have HB := hide (hbw.trans (hB.mono hbw.size))
        clear hB B0 hV0 hgV c0 c1 c2 b0 b1 b2 hles
        go_wp2_with fail
        go_roundw
        case rel => exact ⟨k + 1, by omega, by simp, HB.out⟩
        case measure => simp [intOf]; omega
    · have hkm' : k = m := by omega
      subst hkm'
      have hcmp : decide ((k : Int) < k) = false := decide_eq_false (by omega)
      go_wp2_with fail
      obtain ⟨V0, hV0⟩ : ∃ V0, wr.drew = V0 := ⟨_, rfl⟩
      have B0 : Below wr.heap.size wr V0 := by rw [← hV0]; exact (Below.refl _ wr).drew
      have hqV : q < V0.heap.size := Nat.lt_of_lt_of_le hqr B0.size
      replace b0 := (B0.cell (p := ⟨q, _, none⟩) hqr).trans b0
      replace b1 := (B0.cell (p := ⟨q, _, none⟩) hqr).trans b1
      replace b2 := (B0.cell (p := ⟨q, _, none⟩) hqr).trans b2
      refine region_rel (S := fun V => Below V0.heap.size V0 V) (fun a Wz => ∃ xx : Nat → Value, (Below wr.heap.size wr Wz) ∧ a = { tmps := #[.slice ga k gc, .func (.func 17) #[] #[], .agg #[.string x.1, .bool x.2.1, .int .i64 x.2.2], undef, undef, .pointer (some ⟨q, 0, none⟩), .slice none 0 0, .int .i64 k, .slice ao m0 cap0, .func (.func 17) #[] #[], .func (.func 17) #[] #[], .agg #[.string x.1, .bool x.2.1, .int .i64 x.2.2], .string x.1, .slice ga k gc, xx 14, xx 15, xx 16, xx 17, xx 18, xx 19, xx 20, xx 21, xx 22, xx 23, xx 24, xx 25, xx 26, xx 27, xx 28, .bool false, xx 30, xx 31, undef, undef, undef, undef, undef], defers := [] }) (by kernel_rfl) ?anyf ?finf
      case anyf =>
        rw [hV0]
        clear hV0
        have S0 : Below V0.heap.size V0 V0 := Below.refl _ _
        refine anyH_take (i := 0) (v := .int .i64 k) rfl (some 14) rfl (by kernel_rfl) (by kernel_rfl) (by kernel_rfl) (fun _ _ _ h => by cases h.1) (by kernel_rfl) (fun w0 hw0 => by first | rfl | kernel_rfl) S0 ?_
        simp only [Act.put, List.setIfInBounds_toArray, List.set_cons_zero, List.set_cons_succ]
        refine anyH_take (i := 1) (v := .slice ga k gc) rfl (some 15) rfl (by kernel_rfl) (by kernel_rfl) (by kernel_rfl) (fun _ _ _ h => by cases h.1) (by kernel_rfl) (fun w0 hw0 => by first | rfl | kernel_rfl) S0 ?_
        simp only [Act.put, List.setIfInBounds_toArray, List.set_cons_zero, List.set_cons_succ]
        refine anyH_take (i := 2) (v := .int .i64 k) rfl (some 16) rfl (by kernel_rfl) (by kernel_rfl) (by kernel_rfl) (fun _ _ _ h => by cases h.1) (by kernel_rfl) (fun w0 hw0 => by first | rfl | kernel_rfl) S0 ?_
        simp only [Act.put, List.setIfInBounds_toArray, List.set_cons_zero, List.set_cons_succ]
        refine anyH_take (i := 3) (v := .bool false) rfl (some 17) rfl (by kernel_rfl) (by kernel_rfl) (by kernel_rfl) (fun _ _ _ h => by cases h.1) (by kernel_rfl) (fun _ _ => ex_lssI rfl rfl rfl hcmp) S0 ?_
        simp only [Act.put, List.setIfInBounds_toArray, List.set_cons_zero, List.set_cons_succ]
        refine anyH_take (i := 4) (v := .bool false) rfl (some 18) rfl (by kernel_rfl) (by kernel_rfl) (by kernel_rfl) (fun _ _ _ h => by cases h.1) (by kernel_rfl) (fun w0 hw0 => by first | rfl | kernel_rfl) S0 ?_
        simp only [Act.put, List.setIfInBounds_toArray, List.set_cons_zero, List.set_cons_succ]
        refine anyH_off (i := 5) rfl (some 19) rfl (by kernel_rfl) (by kernel_rfl) (by kernel_rfl) (fun _ _ _ h => by cases h.1) (by kernel_rfl) S0 ?_
        simp only [Act.put, List.setIfInBounds_toArray, List.set_cons_zero, List.set_cons_succ]
        refine anyH_off (i := 6) rfl (some 20) rfl (by kernel_rfl) (by kernel_rfl) (by kernel_rfl) (fun _ _ _ h => by cases h.1) (by kernel_rfl) S0 ?_
        simp only [Act.put, List.setIfInBounds_toArray, List.set_cons_zero, List.set_cons_succ]
        refine anyH_off (i := 7) rfl (some 21) rfl (by kernel_rfl) (by kernel_rfl) (by kernel_rfl) (fun _ _ _ h => by cases h.1) (by kernel_rfl) S0 ?_
        simp only [Act.put, List.setIfInBounds_toArray, List.set_cons_zero, List.set_cons_succ]
        refine anyH_off (i := 8) rfl (some 22) rfl (by kernel_rfl) (by kernel_rfl) (by kernel_rfl) (fun _ _ _ h => by cases h.1) (by kernel_rfl) S0 ?_
        simp only [Act.put, List.setIfInBounds_toArray, List.set_cons_zero, List.set_cons_succ]
        refine anyH_off (i := 9) rfl (some 23) rfl (by kernel_rfl) (by kernel_rfl) (by kernel_rfl) (fun _ _ _ h => by cases h.1) (by kernel_rfl) S0 ?_
        simp only [Act.put, List.setIfInBounds_toArray, List.set_cons_zero, List.set_cons_succ]
        refine anyH_off (i := 11) rfl (some 25) rfl (by kernel_rfl) (by kernel_rfl) (by kernel_rfl) (fun _ _ _ h => by cases h.1) (by kernel_rfl) S0 ?_
        simp only [Act.put, List.setIfInBounds_toArray, List.set_cons_zero, List.set_cons_succ]
        refine anyH_off (i := 12) rfl (some 26) rfl (by kernel_rfl) (by kernel_rfl) (by kernel_rfl) (fun _ _ _ h => by cases h.1) (by kernel_rfl) S0 ?_
        simp only [Act.put, List.setIfInBounds_toArray, List.set_cons_zero, List.set_cons_succ]
        refine anyH_off (i := 10) rfl (some 24) rfl (by kernel_rfl) (by kernel_rfl) (by kernel_rfl) (fun _ _ _ h => by cases h.1) (by kernel_rfl) S0 ?_
        simp only [Act.put, List.setIfInBounds_toArray, List.set_cons_zero, List.set_cons_succ]
        refine anyH_off (i := 13) rfl (some 27) rfl (by kernel_rfl) (by kernel_rfl) (by kernel_rfl) (fun _ _ _ h => by cases h.1) (by kernel_rfl) S0 ?_
        simp only [Act.put, List.setIfInBounds_toArray, List.set_cons_zero, List.set_cons_succ]
        refine anyH_off (i := 14) rfl (some 28) rfl (by kernel_rfl) (by kernel_rfl) (by kernel_rfl) (fun _ _ _ h => by cases h.1) (by kernel_rfl) S0 ?_
        simp only [Act.put, List.setIfInBounds_toArray, List.set_cons_zero, List.set_cons_succ]
        refine anyH_val (i := 15) (by kernel_rfl) rfl (some 29) rfl (by kernel_rfl) (ex_pkF rfl rfl rfl) S0 ?_
        simp only [Act.put, List.setIfInBounds_toArray, List.set_cons_zero, List.set_cons_succ]
        exact wpAnyH_done (by kernel_rfl) ⟨rfl, fill (B0) (by kernel_rfl)⟩ _
      case finf =>
        rintro a W ⟨xx, hB, rfl⟩
        have HB := hide (And.intro (hbw.trans (hB.mono hbw.size)) ((hB.block _ hqr).trans fq))
        clear hB B0 hV0 b0 b1 b2 hbw fq
        obtain ⟨W3, hbs, f3, b3⟩ := one_s x W
        have hqW : q < W.heap.size := (Array.getElem?_eq_some_iff.1 HB.out.2).1
        have hown3 : W3.ownsRow w1.heap.size 43 3 (.slice ga F.length gc) F.length (sC F) := own_same H2.out.2.2.2.1 (fun g e => (b3.block _ (Nat.lt_of_lt_of_le (own_lt H2.out.2.2.2.1 g e) HB.out.1.size)).trans (HB.out.1.block _ (own_lt H2.out.2.2.2.1 g e)))
        have hins := insEnd_s F x _ W.heap.size w1.heap.size W3 hown3 f3 hFl (Nat.le_trans hbase (Nat.le_trans HB.out.1.size b3.size))
        rw [H2.out.2.2.2.2.1] at hins
        have HI := hide hins
        have Hb3 := hide b3
        obtain ⟨d0, d1, d2, _, _, _⟩ := cells_s HB.out.2
        have hl3 := load_s d0 d1 d2
        clear hins hown3 b3 f3 d0 d1 d2
        go_wp2_with (refine l_load _ hl3 rfl rfl rfl ?_; refine stopNd ?_)
        unfold Hid
        refine l_val rfl _ (ex_sliceI (us := #[(0, .agg #[.string x.1, .bool x.2.1, .int .i64 x.2.2])]) rfl (by simp [Act.eval]) hbs) ?_
        clear hl3 hbs
        go_wp2_with fail
        refine HI.out.mono ?_
        rintro e W4 ⟨v4, rfl, hown4, b4⟩
        have H4 := hide (And.intro (own_lowN hown4 (Nat.le_of_lt H2.out.2.2.2.2.2.1)) (H2.out.1.trans ((HB.out.1.mono H2.out.1.size).trans ((Hb3.out.mono (Nat.le_trans H2.out.1.size HB.out.1.size)).trans (b4.mono (Nat.le_of_lt H2.out.2.2.2.2.2.1))))))
        clear hown4 b4
        go_wp2_with fail
        go_ret
        exact ⟨_, rfl, H4.out.1, H4.out.2⟩
theorem one_a (x : ByteArray × Nat) (W : World) : ∃ W3, (Instr.buildSlice 26 1 #[(0, .agg #[.string x.1, .int .u8 x.2])]).run Tryz.prog W = .ok (.slice (some ⟨W.heap.size, 0, none⟩) 1 1) W3 ∧ W3.heap[W.heap.size]? = some (.cells #[.string x.1, .int .u8 x.2] 25) ∧ Below W.heap.size W W3 :=
  ⟨W.alloc (.cells #[.string x.1, .int .u8 x.2] 25), by kernel_rfl, World.alloc_heap_new _ _, (Below.refl _ W).alloc (Nat.le_refl _) _⟩
set_option maxRecDepth 100000 in
set_option maxHeartbeats 4000000 in
theorem insEnd_a (L : List (ByteArray × Nat)) (x : ByteArray × Nat) (v : Value) (bx base : Nat) (w : World) (hown : w.ownsRow base 25 2 v L.length (aC L)) (hx : w.heap[bx]? = some (.cells #[.string x.1, .int .u8 x.2] 25)) (hl : L.length ≤ 1000000) (hb : base ≤ w.heap.size) :
    Calls Tryz.prog 83 #[v, .int .i64 L.length, .slice (some ⟨bx, 0, none⟩) 1 1] w fun e w' => ∃ v', e = .returned v' ∧ w'.ownsRow base 25 2 v' (L ++ [x]).length (aC (L ++ [x])) ∧ Below base w w' := by
  have hone : AffMem w.heap.size w (some ⟨bx, 0, none⟩) [x] := by
    refine ⟨by simp, fun i y hy => ?_⟩
    match i, hy with
    | 0, hy =>
      simp at hy
      subst hy
      exact ⟨bx, 0, rfl, (Array.getElem?_eq_some_iff.1 hx).1, by simp [World.cell?, hx], by simp [World.cell?, hx]⟩
  obtain ⟨v1, w1, hap, hown1, hgr, _⟩ := app_a (T := 26) (cap := 1) hown hone hb (by simp; omega)
  obtain ⟨g0, c0, rfl, _, hlc, _, _⟩ := own_a hown hl
  have hb1 : Below base w w1 := (Below.refl _ w).grown hgr hb (fun g e => own_base hown g e)
  obtain ⟨kk, hkk⟩ : ∃ kk, (L ++ [x]).length = kk := ⟨_, rfl⟩
  rw [hkk] at hown1 ⊢
  have H := hide (And.intro hown1 hb1)
  obtain ⟨m, hml⟩ : ∃ m, L.length = m := ⟨_, rfl⟩
  rw [hml] at hap hlc hl ⊢
  have h1 : ([x] : List (ByteArray × Nat)).length = 1 := rfl
  rw [h1] at hap
  have hmc : (m : Int) ≤ c0 := by omega
  clear hown hone hx hown1 hgr hb1 hkk hml
  by_cases hcm : c0 = m
  · subst hcm
    go_enter Tryz.func83, Tryz.ntmps83
    go_wp2_with (at_builtin; refine stopNd ?_)
    unfold Hid
    refine l_val rfl _ (ex_appN rfl rfl rfl hap) ?_
    obtain ⟨g1, c1, hv1⟩ := own_shape1 H.out.1
    subst hv1
    clear hap
    go_wp2_with fail
    go_ret
    exact ⟨_, rfl, H.out.1, H.out.2⟩
  · go_enter Tryz.func83, Tryz.ntmps83
    go_wp2_with (at_builtin; refine stopNd ?_)
    unfold Hid
    refine l_val rfl _ (ex_appN rfl rfl rfl hap) ?_
    obtain ⟨g1, c1, hv1⟩ := own_shape1 H.out.1
    subst hv1
    clear hap
    go_wp2_with fail
    go_ret
    exact ⟨_, rfl, H.out.1, H.out.2⟩
set_option maxRecDepth 100000 in
set_option maxHeartbeats 4000000 in
theorem withEnd_a (ao : Option Addr) (cap0 : Nat) (L : List (ByteArray × Nat)) (x : ByteArray × Nat) (w : World) (hm : AffMem w.heap.size w ao L) (hlt : ∀ y ∈ woAff x.1 L, y.1.toList < x.1.toList) :
    Calls Tryz.prog 56 #[.slice ao L.length cap0, .func (.func 32) #[] #[], .agg #[.string x.1, .int .u8 x.2]] w fun e w' => ∃ v', e = .returned v' ∧ w'.ownsRow w.heap.size 25 2 v' (woAff x.1 L ++ [x]).length (aC (woAff x.1 L ++ [x])) ∧ Below w.heap.size w w' := by
  have hl := hm.1
  obtain ⟨Wa, hWa⟩ : ∃ Wa, w.alloc (.cells #[.string x.1, .int .u8 x.2] 25) = Wa := ⟨_, rfl⟩
  have fa := World.alloc_heap_new w (.cells #[.string x.1, .int .u8 x.2] 25)
  have ba : Below w.heap.size w Wa := by rw [← hWa]; exact (Below.refl _ w).alloc (Nat.le_refl _) _
  have za : Wa.heap.size = w.heap.size + 1 := by rw [← hWa]; simp
  rw [hWa] at fa
  have HK := hide (aKey_any x Wa)
  have HH := hide (And.intro hm (And.intro fa (And.intro ba (And.intro za hlt))))
  have HW := hide hWa
  obtain ⟨m0, hml⟩ : ∃ m0, L.length = m0 := ⟨_, rfl⟩
  obtain ⟨F, hF⟩ : ∃ F, woAff x.1 L = F := ⟨_, rfl⟩
  have hFl : F.length ≤ 1000000 := by rw [← hF]; exact Nat.le_trans (List.length_filter_le _ _) hl
  have HF := hide (And.intro hF hml)
  rw [hF]
  rw [hml]
  rw [← hWa] at HK
  clear hm fa ba za hlt hF hWa hml hl
  go_enter Tryz.func56, Tryz.ntmps56
  go_wp2_with fail
  refine HK.out.mono ?_
  rintro e w1 ⟨rfl, b1⟩
  have B1 : Below w.heap.size w w1 := by
    have h : _ = Wa := HW.out
    rw [h] at b1
    exact HH.out.2.2.1.trans (b1.mono HH.out.2.2.1.size)
  have f1 : w1.heap[w.heap.size]? = some (.cells #[.string x.1, .int .u8 x.2] 25) := by
    have h : _ = Wa := HW.out
    rw [h] at b1
    exact (b1.block _ (by have := HH.out.2.2.2.1; omega)).trans HH.out.2.1
  have hwo := without_a ao cap0 L x.1 w1 ((HH.out.1.below B1).raise B1.size)
  rw [HF.out.1, HF.out.2] at hwo
  have HWo := hide hwo
  have H1 := hide (And.intro B1 f1)
  clear hwo B1 f1 b1 HK
  go_wp2_with fail
  refine HWo.out.mono ?_
  rintro e w2 ⟨v2, rfl, hown2, b2⟩
  have B2 : Below w.heap.size w w2 := H1.out.1.trans (b2.mono H1.out.1.size)
  have hq1 := (Array.getElem?_eq_some_iff.1 H1.out.2).1
  have f2 := (b2.block _ hq1).trans H1.out.2
  obtain ⟨ga, gc, rfl, hm2, hgc, _, hg2⟩ := own_a hown2 hFl
  obtain ⟨m, hmF⟩ : ∃ m, F.length = m := ⟨_, rfl⟩
  have hm6 : m ≤ 1000000 := by omega
  obtain ⟨q, hq⟩ : ∃ q, w.heap.size = q := ⟨_, rfl⟩
  have hbase := b2.size
  have hq2 : w.heap.size < w1.heap.size := hq1
  have H2 := hide (And.intro B2 (And.intro f2 (And.intro hm2 (And.intro hown2 (And.intro hmF (And.intro hq2 hg2))))))
  rw [hmF]
  clear B2 f2 hm2 hown2 b2 hq1 HWo hmF hg2 hq2
  go_wp2_with fail
  go_loopw [7] (fun iv wr => ∃ k : Nat, k ≤ m ∧ iv = .int .i64 k ∧ Below w2.heap.size w2 wr) (fun iv _ => m - (intOf iv).toNat)
  case atStart => exact ⟨0, Nat.zero_le _, rfl, Below.refl _ _⟩
  case round =>
    obtain ⟨k, hkm, rfl, hbw⟩ := hrel
    have fq := (hbw.block _ (by have := H2.out.2.2.2.2.2.1; have := H2.out.1.size; omega)).trans H2.out.2.1
    rw [hq] at fq
    have hqr : q < wr.heap.size := (Array.getElem?_eq_some_iff.1 fq).1
    obtain ⟨b0, b1⟩ := cell01 fq
    by_cases hlt : (k : Int) < m
    · have hklt : k < m := by omega
      obtain ⟨y, hy⟩ : ∃ y, F[k]? = some y := ⟨_, List.getElem?_eq_getElem (by have := H2.out.2.2.2.2.1; omega)⟩
      obtain ⟨g, off, hge, hgl, c0, c1⟩ := H2.out.2.2.1.2 k y hy
      have hoff : off = 0 := (H2.out.2.2.2.2.2.2 _ hge).2
      subst hoff
      have hcmp : decide ((k : Int) < m) = true := decide_eq_true hlt
      have hles : Op.bytesLess y.1.toList x.1.toList = true := less_yes (HH.out.2.2.2.2 y (by rw [HF.out.1]; exact List.mem_of_getElem? hy))
      rw [hge]
      go_wp2_with fail
      obtain ⟨V0, hV0⟩ : ∃ V0, wr.drew = V0 := ⟨_, rfl⟩
      have B0 : Below wr.heap.size wr V0 := by rw [← hV0]; exact (Below.refl _ wr).drew
      have hqV : q < V0.heap.size := Nat.lt_of_lt_of_le hqr B0.size
      have hgV : g < V0.heap.size := by have := hbw.size; have := B0.size; omega
      replace c0 := (B0.cell (p := ⟨g, _, none⟩) (Nat.lt_of_lt_of_le hgl hbw.size)).trans ((hbw.cell (p := ⟨g, _, none⟩) hgl).trans c0)
      replace c1 := (B0.cell (p := ⟨g, _, none⟩) (Nat.lt_of_lt_of_le hgl hbw.size)).trans ((hbw.cell (p := ⟨g, _, none⟩) hgl).trans c1)
      replace b0 := (B0.cell (p := ⟨q, _, none⟩) hqr).trans b0
      replace b1 := (B0.cell (p := ⟨q, _, none⟩) hqr).trans b1
      refine region_rel (S := fun V => Below V0.heap.size V0 V) (fun a Wz => ∃ xx : Nat → Value, (Below wr.heap.size wr Wz) ∧ a = { tmps := #[.slice (some ⟨g, 0, none⟩) m gc, .func (.func 32) #[] #[], .agg #[.string x.1, .int .u8 x.2], undef, undef, .pointer (some ⟨q, 0, none⟩), .slice none 0 0, .int .i64 k, .slice ao m0 cap0, .func (.func 32) #[] #[], .func (.func 32) #[] #[], .agg #[.string x.1, .int .u8 x.2], .string x.1, .slice (some ⟨g, 0, none⟩) m gc, xx 14, xx 15, xx 16, xx 17, xx 18, xx 19, xx 20, xx 21, xx 22, xx 23, xx 24, xx 25, xx 26, xx 27, xx 28, .bool true, xx 30, xx 31, undef, undef, undef, undef, undef], defers := [] }) (by kernel_rfl) ?anyt ?fint
      case anyt =>
        rw [hV0]
        clear hV0
        have S0 : Below V0.heap.size V0 V0 := Below.refl _ _
        refine anyH_take (i := 0) (v := .int .i64 k) rfl (some 14) rfl (by kernel_rfl) (by kernel_rfl) (by kernel_rfl) (fun _ _ _ h => by cases h.1) (by kernel_rfl) (fun w0 hw0 => by first | rfl | kernel_rfl) S0 ?_
        simp only [Act.put, List.setIfInBounds_toArray, List.set_cons_zero, List.set_cons_succ]
        refine anyH_take (i := 1) (v := .slice (some ⟨g, 0, none⟩) m gc) rfl (some 15) rfl (by kernel_rfl) (by kernel_rfl) (by kernel_rfl) (fun _ _ _ h => by cases h.1) (by kernel_rfl) (fun w0 hw0 => by first | rfl | kernel_rfl) S0 ?_
        simp only [Act.put, List.setIfInBounds_toArray, List.set_cons_zero, List.set_cons_succ]
        refine anyH_take (i := 2) (v := .int .i64 m) rfl (some 16) rfl (by kernel_rfl) (by kernel_rfl) (by kernel_rfl) (fun _ _ _ h => by cases h.1) (by kernel_rfl) (fun w0 hw0 => by first | rfl | kernel_rfl) S0 ?_
        simp only [Act.put, List.setIfInBounds_toArray, List.set_cons_zero, List.set_cons_succ]
        refine anyH_take (i := 3) (v := .bool true) rfl (some 17) rfl (by kernel_rfl) (by kernel_rfl) (by kernel_rfl) (fun _ _ _ h => by cases h.1) (by kernel_rfl) (fun _ _ => ex_lssI rfl rfl rfl hcmp) S0 ?_
        simp only [Act.put, List.setIfInBounds_toArray, List.set_cons_zero, List.set_cons_succ]
        refine anyH_take (i := 4) (v := .bool true) rfl (some 18) rfl (by kernel_rfl) (by kernel_rfl) (by kernel_rfl) (fun _ _ _ h => by cases h.1) (by kernel_rfl) (fun w0 hw0 => by first | rfl | kernel_rfl) S0 ?_
        simp only [Act.put, List.setIfInBounds_toArray, List.set_cons_zero, List.set_cons_succ]
        refine anyH_take (i := 5) (v := .func (.func 32) #[] #[]) rfl (some 19) rfl (by kernel_rfl) (by kernel_rfl) (by kernel_rfl) (fun _ _ _ h => by cases h.1) (by kernel_rfl) (fun w0 hw0 => by first | rfl | kernel_rfl) S0 ?_
        simp only [Act.put, List.setIfInBounds_toArray, List.set_cons_zero, List.set_cons_succ]
        refine anyH_take (i := 6) (v := .slice (some ⟨g, 0, none⟩) m gc) rfl (some 20) rfl (by kernel_rfl) (by kernel_rfl) (by kernel_rfl) (fun _ _ _ h => by cases h.1) (by kernel_rfl) (fun w0 hw0 => by first | rfl | kernel_rfl) S0 ?_
        simp only [Act.put, List.setIfInBounds_toArray, List.set_cons_zero, List.set_cons_succ]
        refine anyH_take (i := 7) (v := .int .i64 k) rfl (some 21) rfl (by kernel_rfl) (by kernel_rfl) (by kernel_rfl) (fun _ _ _ h => by cases h.1) (by kernel_rfl) (fun w0 hw0 => by first | rfl | kernel_rfl) S0 ?_
        simp only [Act.put, List.setIfInBounds_toArray, List.set_cons_zero, List.set_cons_succ]
        refine anyH_take (i := 8) (v := .pointer (some ⟨g, 0 + k * 2, none⟩)) rfl (some 22) rfl (by kernel_rfl) (by kernel_rfl) (by kernel_rfl) (fun _ _ _ h => by cases h.1) (by kernel_rfl) (fun _ _ => ex_idxAff rfl rfl rfl hklt) S0 ?_
        simp only [Act.put, List.setIfInBounds_toArray, List.set_cons_zero, List.set_cons_succ]
        refine anyH_take (i := 9) (v := .agg #[.string y.1, .int .u8 y.2]) rfl (some 23) rfl (by kernel_rfl) (by kernel_rfl) (by kernel_rfl) (fun _ _ _ h => by cases h.1) (by kernel_rfl) (fun w0 hw0 => ex_load rfl rfl (load_a ((hw0.cell (p := ⟨g, _, none⟩) hgV).trans c0) ((hw0.cell (p := ⟨g, _, none⟩) hgV).trans c1))) S0 ?_
        simp only [Act.put, List.setIfInBounds_toArray, List.set_cons_zero, List.set_cons_succ]
        refine anyH_take (i := 11) (v := .func (.func 32) #[] #[]) rfl (some 25) rfl (by kernel_rfl) (by kernel_rfl) (by kernel_rfl) (fun _ _ _ h => by cases h.1) (by kernel_rfl) (fun w0 hw0 => by first | rfl | kernel_rfl) S0 ?_
        simp only [Act.put, List.setIfInBounds_toArray, List.set_cons_zero, List.set_cons_succ]
        refine anyH_take (i := 12) (v := .agg #[.string x.1, .int .u8 x.2]) rfl (some 26) rfl (by kernel_rfl) (by kernel_rfl) (by kernel_rfl) (fun _ _ _ h => by cases h.1) (by kernel_rfl) (fun w0 hw0 => ex_load rfl rfl (load_a ((hw0.cell (p := ⟨q, 0, none⟩) hqV).trans b0) ((hw0.cell (p := ⟨q, 1, none⟩) hqV).trans b1))) S0 ?_
        simp only [Act.put, List.setIfInBounds_toArray, List.set_cons_zero, List.set_cons_succ]
        refine anyH_one (i := 10) (by kernel_rfl) ?_
        refine op_callv rfl (some 24) rfl (by kernel_rfl) #[.agg #[.string y.1, .int .u8 y.2]] rfl rfl (by simp [Act.eval]) (fun _ _ => rfl) (aKey_any y V0) ?_
        rintro e V1 ⟨rfl, c1_⟩
        have b1 : Below V0.heap.size V0 V1 := c1_
        refine ⟨_, rfl, S0.trans (b1.mono S0.size), ?_⟩
        simp only [Act.put, List.setIfInBounds_toArray, List.set_cons_zero, List.set_cons_succ]
        refine anyH_more (fun V => Below V1.heap.size V1 V) (fun V hV => S0.trans ((b1.trans (hV.mono b1.size)).mono S0.size)) ?_
        have S1 : Below V1.heap.size V1 V1 := Below.refl _ _
        have B1 : Below wr.heap.size wr V1 := B0.trans (b1.mono B0.size)
        refine anyH_one (i := 13) (by kernel_rfl) ?_
        refine op_callv rfl (some 27) rfl (by kernel_rfl) #[.agg #[.string x.1, .int .u8 x.2]] rfl rfl (by simp [Act.eval]) (fun _ _ => rfl) (aKey_any x V1) ?_
        rintro e V2 ⟨rfl, c2_⟩
        have b2 : Below V1.heap.size V1 V2 := c2_
        refine ⟨_, rfl, S1.trans (b2.mono S1.size), ?_⟩
        simp only [Act.put, List.setIfInBounds_toArray, List.set_cons_zero, List.set_cons_succ]
        refine anyH_more (fun V => Below V2.heap.size V2 V) (fun V hV => S1.trans ((b2.trans (hV.mono b2.size)).mono S1.size)) ?_
        have S2 : Below V2.heap.size V2 V2 := Below.refl _ _
        have B2 : Below wr.heap.size wr V2 := B1.trans (b2.mono B1.size)
        refine anyH_take (i := 14) (v := .bool true) rfl (some 28) rfl (by kernel_rfl) (by kernel_rfl) (by kernel_rfl) (fun _ _ _ h => by cases h.1) (by kernel_rfl) (fun _ _ => ex_lssS rfl rfl rfl hles) S2 ?_
        simp only [Act.put, List.setIfInBounds_toArray, List.set_cons_zero, List.set_cons_succ]
        refine anyH_val (i := 15) (by kernel_rfl) rfl (some 29) rfl (by kernel_rfl) (ex_pkT rfl rfl rfl) S2 ?_
        simp only [Act.put, List.setIfInBounds_toArray, List.set_cons_zero, List.set_cons_succ]
        exact wpAnyH_done (by kernel_rfl) ⟨rfl, fill (B2) (by kernel_rfl)⟩ _
      case fint =>
        rintro a W ⟨xx, hB, rfl⟩
        have HB := hide (hbw.trans (hB.mono hbw.size))
        clear hB B0 hV0 hgV c0 c1 b0 b1 hles
        go_wp2_with fail
        go_roundw
        case rel => exact ⟨k + 1, by omega, by simp, HB.out⟩
        case measure => simp [intOf]; omega
    · have hkm' : k = m := by omega
      subst hkm'
      have hcmp : decide ((k : Int) < k) = false := decide_eq_false (by omega)
      go_wp2_with fail
      obtain ⟨V0, hV0⟩ : ∃ V0, wr.drew = V0 := ⟨_, rfl⟩
      have B0 : Below wr.heap.size wr V0 := by rw [← hV0]; exact (Below.refl _ wr).drew
      have hqV : q < V0.heap.size := Nat.lt_of_lt_of_le hqr B0.size
      replace b0 := (B0.cell (p := ⟨q, _, none⟩) hqr).trans b0
      replace b1 := (B0.cell (p := ⟨q, _, none⟩) hqr).trans b1
      refine region_rel (S := fun V => Below V0.heap.size V0 V) (fun a Wz => ∃ xx : Nat → Value, (Below wr.heap.size wr Wz) ∧ a = { tmps := #[.slice ga k gc, .func (.func 32) #[] #[], .agg #[.string x.1, .int .u8 x.2], undef, undef, .pointer (some ⟨q, 0, none⟩), .slice none 0 0, .int .i64 k, .slice ao m0 cap0, .func (.func 32) #[] #[], .func (.func 32) #[] #[], .agg #[.string x.1, .int .u8 x.2], .string x.1, .slice ga k gc, xx 14, xx 15, xx 16, xx 17, xx 18, xx 19, xx 20, xx 21, xx 22, xx 23, xx 24, xx 25, xx 26, xx 27, xx 28, .bool false, xx 30, xx 31, undef, undef, undef, undef, undef], defers := [] }) (by kernel_rfl) ?anyf ?finf
      case anyf =>
        rw [hV0]
        clear hV0
        have S0 : Below V0.heap.size V0 V0 := Below.refl _ _
        refine anyH_take (i := 0) (v := .int .i64 k) rfl (some 14) rfl (by kernel_rfl) (by kernel_rfl) (by kernel_rfl) (fun _ _ _ h => by cases h.1) (by kernel_rfl) (fun w0 hw0 => by first | rfl | kernel_rfl) S0 ?_
        simp only [Act.put, List.setIfInBounds_toArray, List.set_cons_zero, List.set_cons_succ]
        refine anyH_take (i := 1) (v := .slice ga k gc) rfl (some 15) rfl (by kernel_rfl) (by kernel_rfl) (by kernel_rfl) (fun _ _ _ h => by cases h.1) (by kernel_rfl) (fun w0 hw0 => by first | rfl | kernel_rfl) S0 ?_
        simp only [Act.put, List.setIfInBounds_toArray, List.set_cons_zero, List.set_cons_succ]
        refine anyH_take (i := 2) (v := .int .i64 k) rfl (some 16) rfl (by kernel_rfl) (by kernel_rfl) (by kernel_rfl) (fun _ _ _ h => by cases h.1) (by kernel_rfl) (fun w0 hw0 => by first | rfl | kernel_rfl) S0 ?_
        simp only [Act.put, List.setIfInBounds_toArray, List.set_cons_zero, List.set_cons_succ]
        refine anyH_take (i := 3) (v := .bool false) rfl (some 17) rfl (by kernel_rfl) (by kernel_rfl) (by kernel_rfl) (fun _ _ _ h => by cases h.1) (by kernel_rfl) (fun _ _ => ex_lssI rfl rfl rfl hcmp) S0 ?_
        simp only [Act.put, List.setIfInBounds_toArray, List.set_cons_zero, List.set_cons_succ]
        refine anyH_take (i := 4) (v := .bool false) rfl (some 18) rfl (by kernel_rfl) (by kernel_rfl) (by kernel_rfl) (fun _ _ _ h => by cases h.1) (by kernel_rfl) (fun w0 hw0 => by first | rfl | kernel_rfl) S0 ?_
        simp only [Act.put, List.setIfInBounds_toArray, List.set_cons_zero, List.set_cons_succ]
        refine anyH_off (i := 5) rfl (some 19) rfl (by kernel_rfl) (by kernel_rfl) (by kernel_rfl) (fun _ _ _ h => by cases h.1) (by kernel_rfl) S0 ?_
        simp only [Act.put, List.setIfInBounds_toArray, List.set_cons_zero, List.set_cons_succ]
        refine anyH_off (i := 6) rfl (some 20) rfl (by kernel_rfl) (by kernel_rfl) (by kernel_rfl) (fun _ _ _ h => by cases h.1) (by kernel_rfl) S0 ?_
        simp only [Act.put, List.setIfInBounds_toArray, List.set_cons_zero, List.set_cons_succ]
        refine anyH_off (i := 7) rfl (some 21) rfl (by kernel_rfl) (by kernel_rfl) (by kernel_rfl) (fun _ _ _ h => by cases h.1) (by kernel_rfl) S0 ?_
        simp only [Act.put, List.setIfInBounds_toArray, List.set_cons_zero, List.set_cons_succ]
        refine anyH_off (i := 8) rfl (some 22) rfl (by kernel_rfl) (by kernel_rfl) (by kernel_rfl) (fun _ _ _ h => by cases h.1) (by kernel_rfl) S0 ?_
        simp only [Act.put, List.setIfInBounds_toArray, List.set_cons_zero, List.set_cons_succ]
        refine anyH_off (i := 9) rfl (some 23) rfl (by kernel_rfl) (by kernel_rfl) (by kernel_rfl) (fun _ _ _ h => by cases h.1) (by kernel_rfl) S0 ?_
        simp only [Act.put, List.setIfInBounds_toArray, List.set_cons_zero, List.set_cons_succ]
        refine anyH_off (i := 11) rfl (some 25) rfl (by kernel_rfl) (by kernel_rfl) (by kernel_rfl) (fun _ _ _ h => by cases h.1) (by kernel_rfl) S0 ?_
        simp only [Act.put, List.setIfInBounds_toArray, List.set_cons_zero, List.set_cons_succ]
        refine anyH_off (i := 12) rfl (some 26) rfl (by kernel_rfl) (by kernel_rfl) (by kernel_rfl) (fun _ _ _ h => by cases h.1) (by kernel_rfl) S0 ?_
        simp only [Act.put, List.setIfInBounds_toArray, List.set_cons_zero, List.set_cons_succ]
        refine anyH_off (i := 10) rfl (some 24) rfl (by kernel_rfl) (by kernel_rfl) (by kernel_rfl) (fun _ _ _ h => by cases h.1) (by kernel_rfl) S0 ?_
        simp only [Act.put, List.setIfInBounds_toArray, List.set_cons_zero, List.set_cons_succ]
        refine anyH_off (i := 13) rfl (some 27) rfl (by kernel_rfl) (by kernel_rfl) (by kernel_rfl) (fun _ _ _ h => by cases h.1) (by kernel_rfl) S0 ?_
        simp only [Act.put, List.setIfInBounds_toArray, List.set_cons_zero, List.set_cons_succ]
        refine anyH_off (i := 14) rfl (some 28) rfl (by kernel_rfl) (by kernel_rfl) (by kernel_rfl) (fun _ _ _ h => by cases h.1) (by kernel_rfl) S0 ?_
        simp only [Act.put, List.setIfInBounds_toArray, List.set_cons_zero, List.set_cons_succ]
        refine anyH_val (i := 15) (by kernel_rfl) rfl (some 29) rfl (by kernel_rfl) (ex_pkF rfl rfl rfl) S0 ?_
        simp only [Act.put, List.setIfInBounds_toArray, List.set_cons_zero, List.set_cons_succ]
        exact wpAnyH_done (by kernel_rfl) ⟨rfl, fill (B0) (by kernel_rfl)⟩ _
      case finf =>
        rintro a W ⟨xx, hB, rfl⟩
        have HB := hide (And.intro (hbw.trans (hB.mono hbw.size)) ((hB.block _ hqr).trans fq))
        clear hB B0 hV0 b0 b1 hbw fq
        obtain ⟨W3, hbs, f3, b3⟩ := one_a x W
        have hqW : q < W.heap.size := (Array.getElem?_eq_some_iff.1 HB.out.2).1
        have hown3 : W3.ownsRow w1.heap.size 25 2 (.slice ga F.length gc) F.length (aC F) := own_same H2.out.2.2.2.1 (fun g e => (b3.block _ (Nat.lt_of_lt_of_le (own_lt H2.out.2.2.2.1 g e) HB.out.1.size)).trans (HB.out.1.block _ (own_lt H2.out.2.2.2.1 g e)))
        have hins := insEnd_a F x _ W.heap.size w1.heap.size W3 hown3 f3 hFl (Nat.le_trans hbase (Nat.le_trans HB.out.1.size b3.size))
        rw [H2.out.2.2.2.2.1] at hins
        have HI := hide hins
        have Hb3 := hide b3
        obtain ⟨d0, d1⟩ := cell01 HB.out.2
        have hl3 := load_a d0 d1
        clear hins hown3 b3 f3 d0 d1
        go_wp2_with (refine l_load _ hl3 rfl rfl rfl ?_; refine stopNd ?_)
        unfold Hid
        refine l_val rfl _ (ex_sliceI (us := #[(0, .agg #[.string x.1, .int .u8 x.2])]) rfl (by simp [Act.eval]) hbs) ?_
        clear hl3 hbs
        go_wp2_with fail
        refine HI.out.mono ?_
        rintro e W4 ⟨v4, rfl, hown4, b4⟩
        have H4 := hide (And.intro (own_lowN hown4 (Nat.le_of_lt H2.out.2.2.2.2.2.1)) (H2.out.1.trans ((HB.out.1.mono H2.out.1.size).trans ((Hb3.out.mono (Nat.le_trans H2.out.1.size HB.out.1.size)).trans (b4.mono (Nat.le_of_lt H2.out.2.2.2.2.2.1))))))
        clear hown4 b4
        go_wp2_with fail
        go_ret
        exact ⟨_, rfl, H4.out.1, H4.out.2⟩
end Go.Proofs.YtffjmkngdjbjlaaGreatDoor
