/- Lists of a node: an element is put behind all others. Somebody subscribes. -/
import Derived.Test.YtimhkgpjfppkmaaGreatDoorRK
import Derived.Test.YtimhkgpjfppkmaaGreatDoorQK
namespace Go.Proofs.YtimhkgpjfppkmaaGreatDoor
open Go.RowKit

theorem ex_lssI {o : Oper} {a : Act} {w : World} {x y : Operand} {s t : Int} {b : Bool} (ho : o.op = .binOp .lss 3 x y 3) (hx : a.eval x = .int .i64 s) (hy : a.eval y = .int .i64 t) (hb : decide (s < t) = b) : (execOp a.eval o).run Tryz.prog w = .ok (.value (.bool b)) w := by
  unfold execOp
  simp only [ho, hx, hy]
  go_simp
theorem ex_lssS {o : Oper} {a : Act} {w : World} {x y : Operand} {s t : ByteArray} {b : Bool} (ho : o.op = .binOp .lss 9 x y 9) (hx : a.eval x = .string s) (hy : a.eval y = .string t) (hb : Op.bytesLess s.toList t.toList = b) : (execOp a.eval o).run Tryz.prog w = .ok (.value (.bool b)) w := by
  unfold execOp
  simp only [ho, hx, hy]
  go_simp
theorem ex_sliceI {o : Oper} {a : Act} {w w' : World} {T : TypeId} {n : Nat} {ps : Array (Nat × Operand)} {v : Value} {us : Array (Nat × Value)} (ho : o.op = .buildSlice T n ps) (hp : (ps.map fun x => (x.1, a.eval x.2)) = us) (hr : (Instr.buildSlice T n us).run Tryz.prog w = .ok v w') : (execOp a.eval o).run Tryz.prog w = .ok (.value v) w' := by
  unfold execOp
  simp only [ho]
  rw [show (ps.map fun (i, x) => (i, a.eval x)) = us from hp]
  simp [hr]
theorem one_s (x : ByteArray × Bool × Int) (W : World) : ∃ W3, (Instr.buildSlice 24 1 #[(0, .agg #[.string x.1, .bool x.2.1, .int .i64 x.2.2])]).run Tryz.prog W = .ok (.slice (some ⟨W.heap.size, 0, none⟩) 1 1) W3 ∧ W3.heap[W.heap.size]? = some (.cells #[.string x.1, .bool x.2.1, .int .i64 x.2.2] 58) ∧ Below W.heap.size W W3 :=
  ⟨W.alloc (.cells #[.string x.1, .bool x.2.1, .int .i64 x.2.2] 58), by kernel_rfl, World.alloc_heap_new _ _, (Below.refl _ W).alloc (Nat.le_refl _) _⟩
set_option maxRecDepth 100000 in
set_option maxHeartbeats 4000000 in
theorem insEnd_s (L : List (ByteArray × Bool × Int)) (x : ByteArray × Bool × Int) (v : Value) (bx base : Nat) (w : World) (hown : w.ownsRow base 58 3 v L.length (sC L)) (hx : w.heap[bx]? = some (.cells #[.string x.1, .bool x.2.1, .int .i64 x.2.2] 58)) (hl : L.length ≤ 1000000) (hb : base ≤ w.heap.size) :
    Calls Tryz.prog 68 #[v, .int .i64 L.length, .slice (some ⟨bx, 0, none⟩) 1 1] w fun e w' => ∃ v', e = .returned v' ∧ w'.ownsRow base 58 3 v' (L ++ [x]).length (sC (L ++ [x])) ∧ Below base w w' := by
  have hone : SubMem w.heap.size w (some ⟨bx, 0, none⟩) [x] := by
    refine ⟨by simp, fun i y hy => ?_⟩
    match i, hy with
    | 0, hy =>
      simp at hy
      subst hy
      exact ⟨bx, 0, rfl, (Array.getElem?_eq_some_iff.1 hx).1, by simp [World.cell?, hx], by simp [World.cell?, hx], by simp [World.cell?, hx]⟩
  obtain ⟨v1, w1, hap, hown1, hgr, _⟩ := app_s (T := 24) (cap := 1) hown hone hb (by simp; omega)
  obtain ⟨g0, c0, rfl, _, hlc, _, _⟩ := own_s hown hl
  have hb1 : Below base w w1 := (Below.refl _ w).grown hgr hb (fun g e => own_base hown g e)
  obtain ⟨kk, hkk⟩ : ∃ kk, (L ++ [x]).length = kk := ⟨_, rfl⟩
  rw [hkk] at hown1 ⊢
  have H := hide (And.intro hown1 hb1)
  obtain ⟨m, hml⟩ : ∃ m, L.length = m := ⟨_, rfl⟩
  rw [hml] at hap hlc hl ⊢
  have h1 : ([x] : List (ByteArray × Bool × Int)).length = 1 := rfl
  rw [h1] at hap
  have hmc : (m : Int) ≤ c0 := by omega
  clear hown hone hx hown1 hgr hb1 hkk hml
  by_cases hcm : c0 = m
  · subst hcm
    go_enter Tryz.func68, Tryz.ntmps68
    go_wp2_with (at_builtin; refine stopNd ?_)
    unfold Hid
    refine l_val rfl _ (ex_appN rfl rfl rfl hap) ?_
    obtain ⟨g1, c1, hv1⟩ := own_shape1 H.out.1
    subst hv1
    clear hap
    go_wp2_with fail
    go_ret
    exact ⟨_, rfl, H.out.1, H.out.2⟩
  · go_enter Tryz.func68, Tryz.ntmps68
    go_wp2_with (at_builtin; refine stopNd ?_)
    unfold Hid
    refine l_val rfl _ (ex_appN rfl rfl rfl hap) ?_
    obtain ⟨g1, c1, hv1⟩ := own_shape1 H.out.1
    subst hv1
    clear hap
    go_wp2_with fail
    go_ret
    exact ⟨_, rfl, H.out.1, H.out.2⟩
set_option maxRecDepth 100000 in
set_option maxHeartbeats 4000000 in
theorem withEnd_s (ao : Option Addr) (cap0 : Nat) (L : List (ByteArray × Bool × Int)) (x : ByteArray × Bool × Int) (w : World) (hm : SubMem w.heap.size w ao L) (hlt : ∀ y ∈ woSub x.1 L, y.1.toList < x.1.toList) :
    Calls Tryz.prog 37 #[.slice ao L.length cap0, .func (.func 38) #[] #[], .agg #[.string x.1, .bool x.2.1, .int .i64 x.2.2]] w fun e w' => ∃ v', e = .returned v' ∧ w'.ownsRow w.heap.size 58 3 v' (woSub x.1 L ++ [x]).length (sC (woSub x.1 L ++ [x])) ∧ Below w.heap.size w w' := by
  have hl := hm.1
  obtain ⟨Wa, hWa⟩ : ∃ Wa, w.alloc (.cells #[.string x.1, .bool x.2.1, .int .i64 x.2.2] 58) = Wa := ⟨_, rfl⟩
  have fa := World.alloc_heap_new w (.cells #[.string x.1, .bool x.2.1, .int .i64 x.2.2] 58)
  have ba : Below w.heap.size w Wa := by rw [← hWa]; exact (Below.refl _ w).alloc (Nat.le_refl _) _
  have za : Wa.heap.size = w.heap.size + 1 := by rw [← hWa]; simp
  rw [hWa] at fa
  have HK := hide (sKey_any x Wa)
  have HH := hide (And.intro hm (And.intro fa (And.intro ba (And.intro za hlt))))
  have HW := hide hWa
  obtain ⟨m0, hml⟩ : ∃ m0, L.length = m0 := ⟨_, rfl⟩
  obtain ⟨F, hF⟩ : ∃ F, woSub x.1 L = F := ⟨_, rfl⟩
  have hFl : F.length ≤ 1000000 := by rw [← hF]; exact Nat.le_trans (List.length_filter_le _ _) hl
  have HF := hide (And.intro hF hml)
  rw [hF]
  rw [hml]
  rw [← hWa] at HK
  clear hm fa ba za hlt hF hWa hml hl
  go_enter Tryz.func37, Tryz.ntmps37
  go_wp2_with fail
  refine HK.out.mono ?_
  rintro e w1 ⟨rfl, b1⟩
  have B1 : Below w.heap.size w w1 := by
    have h : _ = Wa := HW.out
    rw [h] at b1
    exact HH.out.2.2.1.trans (b1.mono HH.out.2.2.1.size)
  have f1 : w1.heap[w.heap.size]? = some (.cells #[.string x.1, .bool x.2.1, .int .i64 x.2.2] 58) := by
    have h : _ = Wa := HW.out
    rw [h] at b1
    exact (b1.block _ (by have := HH.out.2.2.2.1; omega)).trans HH.out.2.1
  have hwo := without_s ao cap0 L x.1 w1 ((HH.out.1.below B1).raise B1.size)
  rw [HF.out.1, HF.out.2] at hwo
  have HWo := hide hwo
  have H1 := hide (And.intro B1 f1)
  clear hwo B1 f1 b1 HK
  go_wp2_with fail
  refine HWo.out.mono ?_
  rintro e w2 ⟨v2, rfl, hown2, b2⟩
  have B2 : Below w.heap.size w w2 := H1.out.1.trans (b2.mono H1.out.1.size)
  have hq1 := (Array.getElem?_eq_some_iff.1 H1.out.2).1
  have f2 := (b2.block _ hq1).trans H1.out.2
  obtain ⟨ga, gc, rfl, hm2, hgc, _, hg2⟩ := own_s hown2 hFl
  obtain ⟨m, hmF⟩ : ∃ m, F.length = m := ⟨_, rfl⟩
  have hm6 : m ≤ 1000000 := by omega
  obtain ⟨q, hq⟩ : ∃ q, w.heap.size = q := ⟨_, rfl⟩
  have hbase := b2.size
  have hq2 : w.heap.size < w1.heap.size := hq1
  have H2 := hide (And.intro B2 (And.intro f2 (And.intro hm2 (And.intro hown2 (And.intro hmF (And.intro hq2 hg2))))))
  rw [hmF]
  clear B2 f2 hm2 hown2 b2 hq1 HWo hmF hg2 hq2
  go_wp2_with fail
  go_loopw [7] (fun iv wr => ∃ k : Nat, k ≤ m ∧ iv = .int .i64 k ∧ Below w2.heap.size w2 wr) (fun iv _ => m - (intOf iv).toNat)
  case atStart => exact ⟨0, Nat.zero_le _, rfl, Below.refl _ _⟩
  case round =>
    obtain ⟨k, hkm, rfl, hbw⟩ := hrel
    have fq := (hbw.block _ (by have := H2.out.2.2.2.2.2.1; have := H2.out.1.size; omega)).trans H2.out.2.1
    rw [hq] at fq
    have hqr : q < wr.heap.size := (Array.getElem?_eq_some_iff.1 fq).1
    obtain ⟨b0, b1, b2, _, _, _⟩ := cells_s fq
    by_cases hlt : (k : Int) < m
    · have hklt : k < m := by omega
      obtain ⟨y, hy⟩ : ∃ y, F[k]? = some y := ⟨_, List.getElem?_eq_getElem (by have := H2.out.2.2.2.2.1; omega)⟩
      obtain ⟨g, off, hge, hgl, c0, c1, c2⟩ := H2.out.2.2.1.2 k y hy
      have hoff : off = 0 := (H2.out.2.2.2.2.2.2 _ hge).2
      subst hoff
      have hcmp : decide ((k : Int) < m) = true := decide_eq_true hlt
      have hles : Op.bytesLess y.1.toList x.1.toList = true := less_yes (HH.out.2.2.2.2 y (by rw [HF.out.1]; exact List.mem_of_getElem? hy))
      rw [hge]
      go_wp2_with fail
      obtain ⟨V0, hV0⟩ : ∃ V0, wr.drew = V0 := ⟨_, rfl⟩
      have B0 : Below wr.heap.size wr V0 := by rw [← hV0]; exact (Below.refl _ wr).drew
      have hqV : q < V0.heap.size := Nat.lt_of_lt_of_le hqr B0.size
      have hgV : g < V0.heap.size := by have := hbw.size; have := B0.size; omega
      replace c0 := (B0.cell (p := ⟨g, _, none⟩) (Nat.lt_of_lt_of_le hgl hbw.size)).trans ((hbw.cell (p := ⟨g, _, none⟩) hgl).trans c0)
      replace c1 := (B0.cell (p := ⟨g, _, none⟩) (Nat.lt_of_lt_of_le hgl hbw.size)).trans ((hbw.cell (p := ⟨g, _, none⟩) hgl).trans c1)
      replace c2 := (B0.cell (p := ⟨g, _, none⟩) (Nat.lt_of_lt_of_le hgl hbw.size)).trans ((hbw.cell (p := ⟨g, _, none⟩) hgl).trans c2)
      replace b0 := (B0.cell (p := ⟨q, _, none⟩) hqr).trans b0
      replace b1 := (B0.cell (p := ⟨q, _, none⟩) hqr).trans b1
      replace b2 := (B0.cell (p := ⟨q, _, none⟩) hqr).trans b2
      refine region_rel (S := fun V => Below V0.heap.size V0 V) (fun a Wz => ∃ xx : Nat → Value, (Below wr.heap.size wr Wz) ∧ a = { tmps := #[.slice (some ⟨g, 0, none⟩) m gc, .func (.func 38) #[] #[], .agg #[.string x.1, .bool x.2.1, .int .i64 x.2.2], undef, undef, .pointer (some ⟨q, 0, none⟩), .slice none 0 0, .int .i64 k, .slice ao m0 cap0, .func (.func 38) #[] #[], .func (.func 38) #[] #[], .agg #[.string x.1, .bool x.2.1, .int .i64 x.2.2], .string x.1, .slice (some ⟨g, 0, none⟩) m gc, xx 14, xx 15, xx 16, xx 17, xx 18, xx 19, xx 20, xx 21, xx 22, xx 23, xx 24, xx 25, xx 26, xx 27, xx 28, .bool true, xx 30, xx 31, undef, undef, undef, undef, undef], defers := [] }) (by kernel_rfl) ?anyt ?fint
      case anyt =>
        rw [hV0]
        clear hV0
        have S0 : Below V0.heap.size V0 V0 := Below.refl _ _
        refine anyH_take (i := 0) (v := .int .i64 k) rfl (some 14) rfl (by kernel_rfl) (by kernel_rfl) (by kernel_rfl) (fun _ _ _ h => by cases h.1) (by kernel_rfl) (fun w0 hw0 => by first | rfl | kernel_rfl) S0 ?_
        simp only [Act.put, List.setIfInBounds_toArray, List.set_cons_zero, List.set_cons_succ]
        refine anyH_take (i := 1) (v := .slice (some ⟨g, 0, none⟩) m gc) rfl (some 15) rfl (by kernel_rfl) (by kernel_rfl) (by kernel_rfl) (fun _ _ _ h => by cases h.1) (by kernel_rfl) (fun w0 hw0 => by first | rfl | kernel_rfl) S0 ?_
        simp only [Act.put, List.setIfInBounds_toArray, List.set_cons_zero, List.set_cons_succ]
        refine anyH_take (i := 2) (v := .int .i64 m) rfl (some 16) rfl (by kernel_rfl) (by kernel_rfl) (by kernel_rfl) (fun _ _ _ h => by cases h.1) (by kernel_rfl) (fun w0 hw0 => by first | rfl | kernel_rfl) S0 ?_
        simp only [Act.put, List.setIfInBounds_toArray, List.set_cons_zero, List.set_cons_succ]
        refine anyH_take (i := 3) (v := .bool true) rfl (some 17) rfl (by kernel_rfl) (by kernel_rfl) (by kernel_rfl) (fun _ _ _ h => by cases h.1) (by kernel_rfl) (fun _ _ => ex_lssI rfl rfl rfl hcmp) S0 ?_
        simp only [Act.put, List.setIfInBounds_toArray, List.set_cons_zero, List.set_cons_succ]
        refine anyH_take (i := 4) (v := .bool true) rfl (some 18) rfl (by kernel_rfl) (by kernel_rfl) (by kernel_rfl) (fun _ _ _ h => by cases h.1) (by kernel_rfl) (fun w0 hw0 => by first | rfl | kernel_rfl) S0 ?_
        simp only [Act.put, List.setIfInBounds_toArray, List.set_cons_zero, List.set_cons_succ]
        refine anyH_take (i := 5) (v := .func (.func 38) #[] #[]) rfl (some 19) rfl (by kernel_rfl) (by kernel_rfl) (by kernel_rfl) (fun _ _ _ h => by cases h.1) (by kernel_rfl) (fun w0 hw0 => by first | rfl | kernel_rfl) S0 ?_
        simp only [Act.put, List.setIfInBounds_toArray, List.set_cons_zero, List.set_cons_succ]
        refine anyH_take (i := 6) (v := .slice (some ⟨g, 0, none⟩) m gc) rfl (some 20) rfl (by kernel_rfl) (by kernel_rfl) (by kernel_rfl) (fun _ _ _ h => by cases h.1) (by kernel_rfl) (fun w0 hw0 => by first | rfl | kernel_rfl) S0 ?_
        simp only [Act.put, List.setIfInBounds_toArray, List.set_cons_zero, List.set_cons_succ]
        refine anyH_take (i := 7) (v := .int .i64 k) rfl (some 21) rfl (by kernel_rfl) (by kernel_rfl) (by kernel_rfl) (fun _ _ _ h => by cases h.1) (by kernel_rfl) (fun w0 hw0 => by first | rfl | kernel_rfl) S0 ?_
        simp only [Act.put, List.setIfInBounds_toArray, List.set_cons_zero, List.set_cons_succ]
        refine anyH_take (i := 8) (v := .pointer (some ⟨g, 0 + k * 3, none⟩)) rfl (some 22) rfl (by kernel_rfl) (by kernel_rfl) (by kernel_rfl) (fun _ _ _ h => by cases h.1) (by kernel_rfl) (fun _ _ => ex_idxSub rfl rfl rfl hklt) S0 ?_
        simp only [Act.put, List.setIfInBounds_toArray, List.set_cons_zero, List.set_cons_succ]
        refine anyH_take (i := 9) (v := .agg #[.string y.1, .bool y.2.1, .int .i64 y.2.2]) rfl (some 23) rfl (by kernel_rfl) (by kernel_rfl) (by kernel_rfl) (fun _ _ _ h => by cases h.1) (by kernel_rfl) (fun w0 hw0 => ex_load rfl rfl (load_s ((hw0.cell (p := ⟨g, _, none⟩) hgV).trans c0) ((hw0.cell (p := ⟨g, _, none⟩) hgV).trans c1) ((hw0.cell (p := ⟨g, _, none⟩) hgV).trans c2))) S0 ?_
        simp only [Act.put, List.setIfInBounds_toArray, List.set_cons_zero, List.set_cons_succ]
        refine anyH_take (i := 11) (v := .func (.func 38) #[] #[]) rfl (some 25) rfl (by kernel_rfl) (by kernel_rfl) (by kernel_rfl) (fun _ _ _ h => by cases h.1) (by kernel_rfl) (fun w0 hw0 => by first | rfl | kernel_rfl) S0 ?_
        simp only [Act.put, List.setIfInBounds_toArray, List.set_cons_zero, List.set_cons_succ]
        refine anyH_take (i := 12) (v := .agg #[.string x.1, .bool x.2.1, .int .i64 x.2.2]) rfl (some 26) rfl (by kernel_rfl) (by kernel_rfl) (by kernel_rfl) (fun _ _ _ h => by cases h.1) (by kernel_rfl) (fun w0 hw0 => ex_load rfl rfl (load_s ((hw0.cell (p := ⟨q, 0, none⟩) hqV).trans b0) ((hw0.cell (p := ⟨q, 1, none⟩) hqV).trans b1) ((hw0.cell (p := ⟨q, 2, none⟩) hqV).trans b2))) S0 ?_
        simp only [Act.put, List.setIfInBounds_toArray, List.set_cons_zero, List.set_cons_succ]
        refine anyH_one (i := 10) (by kernel_rfl) ?_
        refine op_callv rfl (some 24) rfl (by kernel_rfl) #[.agg #[.string y.1, .bool y.2.1, .int .i64 y.2.2]] rfl rfl (by simp [Act.eval]) (fun _ _ => rfl) (sKey_any y V0) ?_
        rintro e V1 ⟨rfl, c1_⟩
        have b1 : Below V0.heap.size V0 V1 := c1_
        refine ⟨_, rfl, S0.trans (b1.mono S0.size), ?_⟩
        simp only [Act.put, List.setIfInBounds_toArray, List.set_cons_zero, List.set_cons_succ]
        refine anyH_more (fun V => Below V1.heap.size V1 V) (fun V hV => S0.trans ((b1.trans (hV.mono b1.size)).mono S0.size)) ?_
        have S1 : Below V1.heap.size V1 V1 := Below.refl _ _
        have B1 : Below wr.heap.size wr V1 := B0.trans (b1.mono B0.size)
        refine anyH_one (i := 13) (by kernel_rfl) ?_
        refine op_callv rfl (some 27) rfl (by kernel_rfl) #[.agg #[.string x.1, .bool x.2.1, .int .i64 x.2.2]] rfl rfl (by simp [Act.eval]) (fun _ _ => rfl) (sKey_any x V1) ?_
        rintro e V2 ⟨rfl, c2_⟩
        have b2 : Below V1.heap.size V1 V2 := c2_
        refine ⟨_, rfl, S1.trans (b2.mono S1.size), ?_⟩
        simp only [Act.put, List.setIfInBounds_toArray, List.set_cons_zero, List.set_cons_succ]
        refine anyH_more (fun V => Below V2.heap.size V2 V) (fun V hV => S1.trans ((b2.trans (hV.mono b2.size)).mono S1.size)) ?_
        have S2 : Below V2.heap.size V2 V2 := Below.refl _ _
        have B2 : Below wr.heap.size wr V2 := B1.trans (b2.mono B1.size)
        refine anyH_take (i := 14) (v := .bool true) rfl (some 28) rfl (by kernel_rfl) (by kernel_rfl) (by kernel_rfl) (fun _ _ _ h => by cases h.1) (by kernel_rfl) (fun _ _ => ex_lssS rfl rfl rfl hles) S2 ?_
        simp only [Act.put, List.setIfInBounds_toArray, List.set_cons_zero, List.set_cons_succ]
        refine anyH_val (i := 15) (by kernel_rfl) rfl (some 29) rfl (by kernel_rfl) (ex_pkT rfl rfl rfl) S2 ?_
        simp only [Act.put, List.setIfInBounds_toArray, List.set_cons_zero, List.set_cons_succ]
        exact wpAnyH_done (by kernel_rfl) ⟨rfl, fill (B2) (by kernel_rfl)⟩ _
      case fint =>
        rintro a W ⟨xx, hB, rfl⟩
        have HB := hide (hbw.trans (hB.mono hbw.size))
        clear hB B0 hV0 hgV c0 c1 c2 b0 b1 b2 hles
        go_wp2_with fail
        go_roundw
        case rel => exact ⟨k + 1, by omega, by simp, HB.out⟩
        case measure => simp [intOf]; omega
    · have hkm' : k = m := by omega
      subst hkm'
      have hcmp : decide ((k : Int) < k) = false := decide_eq_false (by omega)
      go_wp2_with fail
      obtain ⟨V0, hV0⟩ : ∃ V0, wr.drew = V0 := ⟨_, rfl⟩
      have B0 : Below wr.heap.size wr V0 := by rw [← hV0]; exact (Below.refl _ wr).drew
      have hqV : q < V0.heap.size := Nat.lt_of_lt_of_le hqr B0.size
      replace b0 := (B0.cell (p := ⟨q, _, none⟩) hqr).trans b0
      replace b1 := (B0.cell (p := ⟨q, _, none⟩) hqr).trans b1
      replace b2 := (B0.cell (p := ⟨q, _, none⟩) hqr).trans b2
      refine region_rel (S := fun V => Below V0.heap.size V0 V) (fun a Wz => ∃ xx : Nat → Value, (Below wr.heap.size wr Wz) ∧ a = { tmps := #[.slice ga k gc, .func (.func 38) #[] #[], .agg #[.string x.1, .bool x.2.1, .int .i64 x.2.2], undef, undef, .pointer (some ⟨q, 0, none⟩), .slice none 0 0, .int .i64 k, .slice ao m0 cap0, .func (.func 38) #[] #[], .func (.func 38) #[] #[], .agg #[.string x.1, .bool x.2.1, .int .i64 x.2.2], .string x.1, .slice ga k gc, xx 14, xx 15, xx 16, xx 17, xx 18, xx 19, xx 20, xx 21, xx 22, xx 23, xx 24, xx 25, xx 26, xx 27, xx 28, .bool false, xx 30, xx 31, undef, undef, undef, undef, undef], defers := [] }) (by kernel_rfl) ?anyf ?finf
      case anyf =>
        rw [hV0]
        clear hV0
        have S0 : Below V0.heap.size V0 V0 := Below.refl _ _
        refine anyH_take (i := 0) (v := .int .i64 k) rfl (some 14) rfl (by kernel_rfl) (by kernel_rfl) (by kernel_rfl) (fun _ _ _ h => by cases h.1) (by kernel_rfl) (fun w0 hw0 => by first | rfl | kernel_rfl) S0 ?_
        simp only [Act.put, List.setIfInBounds_toArray, List.set_cons_zero, List.set_cons_succ]
        refine anyH_take (i := 1) (v := .slice ga k gc) rfl (some 15) rfl (by kernel_rfl) (by kernel_rfl) (by kernel_rfl) (fun _ _ _ h => by cases h.1) (by kernel_rfl) (fun w0 hw0 => by first | rfl | kernel_rfl) S0 ?_
        simp only [Act.put, List.setIfInBounds_toArray, List.set_cons_zero, List.set_cons_succ]
        refine anyH_take (i := 2) (v := .int .i64 k) rfl (some 16) rfl (by kernel_rfl) (by kernel_rfl) (by kernel_rfl) (fun _ _ _ h => by cases h.1) (by kernel_rfl) (fun w0 hw0 => by first | rfl | kernel_rfl) S0 ?_
        simp only [Act.put, List.setIfInBounds_toArray, List.set_cons_zero, List.set_cons_succ]
        refine anyH_take (i := 3) (v := .bool false) rfl (some 17) rfl (by kernel_rfl) (by kernel_rfl) (by kernel_rfl) (fun _ _ _ h => by cases h.1) (by kernel_rfl) (fun _ _ => ex_lssI rfl rfl rfl hcmp) S0 ?_
        simp only [Act.put, List.setIfInBounds_toArray, List.set_cons_zero, List.set_cons_succ]
        refine anyH_take (i := 4) (v := .bool false) rfl (some 18) rfl (by kernel_rfl) (by kernel_rfl) (by kernel_rfl) (fun _ _ _ h => by cases h.1) (by kernel_rfl) (fun w0 hw0 => by first | rfl | kernel_rfl) S0 ?_
        simp only [Act.put, List.setIfInBounds_toArray, List.set_cons_zero, List.set_cons_succ]
        refine anyH_off (i := 5) rfl (some 19) rfl (by kernel_rfl) (by kernel_rfl) (by kernel_rfl) (fun _ _ _ h => by cases h.1) (by kernel_rfl) S0 ?_
        simp only [Act.put, List.setIfInBounds_toArray, List.set_cons_zero, List.set_cons_succ]
        refine anyH_off (i := 6) rfl (some 20) rfl (by kernel_rfl) (by kernel_rfl) (by kernel_rfl) (fun _ _ _ h => by cases h.1) (by kernel_rfl) S0 ?_
        simp only [Act.put, List.setIfInBounds_toArray, List.set_cons_zero, List.set_cons_succ]
        refine anyH_off (i := 7) rfl (some 21) rfl (by kernel_rfl) (by kernel_rfl) (by kernel_rfl) (fun _ _ _ h => by cases h.1) (by kernel_rfl) S0 ?_
        simp only [Act.put, List.setIfInBounds_toArray, List.set_cons_zero, List.set_cons_succ]
        refine anyH_off (i := 8) rfl (some 22) rfl (by kernel_rfl) (by kernel_rfl) (by kernel_rfl) (fun _ _ _ h => by cases h.1) (by kernel_rfl) S0 ?_
        simp only [Act.put, List.setIfInBounds_toArray, List.set_cons_zero, List.set_cons_succ]
        refine anyH_off (i := 9) rfl (some 23) rfl (by kernel_rfl) (by kernel_rfl) (by kernel_rfl) (fun _ _ _ h => by cases h.1) (by kernel_rfl) S0 ?_
        simp only [Act.put, List.setIfInBounds_toArray, List.set_cons_zero, List.set_cons_succ]
        refine anyH_off (i := 11) rfl (some 25) rfl (by kernel_rfl) (by kernel_rfl) (by kernel_rfl) (fun _ _ _ h => by cases h.1) (by kernel_rfl) S0 ?_
        simp only [Act.put, List.setIfInBounds_toArray, List.set_cons_zero, List.set_cons_succ]
        refine anyH_off (i := 12) rfl (some 26) rfl (by kernel_rfl) (by kernel_rfl) (by kernel_rfl) (fun _ _ _ h => by cases h.1) (by kernel_rfl) S0 ?_
        simp only [Act.put, List.setIfInBounds_toArray, List.set_cons_zero, List.set_cons_succ]
        refine anyH_off (i := 10) rfl (some 24) rfl (by kernel_rfl) (by kernel_rfl) (by kernel_rfl) (fun _ _ _ h => by cases h.1) (by kernel_rfl) S0 ?_
        simp only [Act.put, List.setIfInBounds_toArray, List.set_cons_zero, List.set_cons_succ]
        refine anyH_off (i := 13) rfl (some 27) rfl (by kernel_rfl) (by kernel_rfl) (by kernel_rfl) (fun _ _ _ h => by cases h.1) (by kernel_rfl) S0 ?_
        simp only [Act.put, List.setIfInBounds_toArray, List.set_cons_zero, List.set_cons_succ]
        refine anyH_off (i := 14) rfl (some 28) rfl (by kernel_rfl) (by kernel_rfl) (by kernel_rfl) (fun _ _ _ h => by cases h.1) (by kernel_rfl) S0 ?_
        simp only [Act.put, List.setIfInBounds_toArray, List.set_cons_zero, List.set_cons_succ]
        refine anyH_val (i := 15) (by kernel_rfl) rfl (some 29) rfl (by kernel_rfl) (ex_pkF rfl rfl rfl) S0 ?_
        simp only [Act.put, List.setIfInBounds_toArray, List.set_cons_zero, List.set_cons_succ]
        exact wpAnyH_done (by kernel_rfl) ⟨rfl, fill (B0) (by kernel_rfl)⟩ _
      case finf =>
        rintro a W ⟨xx, hB, rfl⟩
        have HB := hide (And.intro (hbw.trans (hB.mono hbw.size)) ((hB.block _ hqr).trans fq))
        clear hB B0 hV0 b0 b1 b2 hbw fq
        obtain ⟨W3, hbs, f3, b3⟩ := one_s x W
        have hqW : q < W.heap.size := (Array.getElem?_eq_some_iff.1 HB.out.2).1
        have hown3 : W3.ownsRow w1.heap.size 58 3 (.slice ga F.length gc) F.length (sC F) := own_same H2.out.2.2.2.1 (fun g e => (b3.block _ (Nat.lt_of_lt_of_le (own_lt H2.out.2.2.2.1 g e) HB.out.1.size)).trans (HB.out.1.block _ (own_lt H2.out.2.2.2.1 g e)))
        have hins := insEnd_s F x _ W.heap.size w1.heap.size W3 hown3 f3 hFl (Nat.le_trans hbase (Nat.le_trans HB.out.1.size b3.size))
        rw [H2.out.2.2.2.2.1] at hins
        have HI := hide hins
        have Hb3 := hide b3
        obtain ⟨d0, d1, d2, _, _, _⟩ := cells_s HB.out.2
        have hl3 := load_s d0 d1 d2
        clear hins hown3 b3 f3 d0 d1 d2
        go_wp2_with (refine l_load _ hl3 rfl rfl rfl ?_; refine stopNd ?_)
        unfold Hid
        refine l_val rfl _ (ex_sliceI (us := #[(0, .agg #[.string x.1, .bool x.2.1, .int .i64 x.2.2])]) rfl (by simp [Act.eval]) hbs) ?_
        clear hl3 hbs
        go_wp2_with fail
        refine HI.out.mono ?_
        rintro e W4 ⟨v4, rfl, hown4, b4⟩
        have H4 := hide (And.intro (own_lowN hown4 (Nat.le_of_lt H2.out.2.2.2.2.2.1)) (H2.out.1.trans ((HB.out.1.mono H2.out.1.size).trans ((Hb3.out.mono (Nat.le_trans H2.out.1.size HB.out.1.size)).trans (b4.mono (Nat.le_of_lt H2.out.2.2.2.2.2.1))))))
        clear hown4 b4
        go_wp2_with fail
        go_ret
        exact ⟨_, rfl, H4.out.1, H4.out.2⟩
theorem one_a (x : ByteArray × Nat) (W : World) : ∃ W3, (Instr.buildSlice 23 1 #[(0, .agg #[.string x.1, .int .u8 x.2])]).run Tryz.prog W = .ok (.slice (some ⟨W.heap.size, 0, none⟩) 1 1) W3 ∧ W3.heap[W.heap.size]? = some (.cells #[.string x.1, .int .u8 x.2] 55) ∧ Below W.heap.size W W3 :=
  ⟨W.alloc (.cells #[.string x.1, .int .u8 x.2] 55), by kernel_rfl, World.alloc_heap_new _ _, (Below.refl _ W).alloc (Nat.le_refl _) _⟩
end Go.Proofs.YtimhkgpjfppkmaaGreatDoor
namespace Go.Proofs.YtimhkgpjfppkmaaGreatDoor
open Go.RowKit

/-- Subscriptions with this one in its place. -/
def inSub (x : ByteArray × Bool × Int) (L : List (ByteArray × Bool × Int)) : List (ByteArray × Bool × Int) := (woSub x.1 L).takeWhile (fun y => decide (y.1.toList < x.1.toList)) ++ x :: (woSub x.1 L).dropWhile (fun y => decide (y.1.toList < x.1.toList))
/-- What with answers at this list and this element. -/
def WithS (L : List (ByteArray × Bool × Int)) (x : ByteArray × Bool × Int) : Prop := ∀ (ao : Option Addr) (cap : Nat) (w : World), SubMem w.heap.size w ao L →
    Calls Tryz.prog 37 #[.slice ao L.length cap, .func (.func 38) #[] #[], .agg #[.string x.1, .bool x.2.1, .int .i64 x.2.2]] w fun e w' => ∃ v', e = .returned v' ∧ w'.ownsRow w.heap.size 58 3 v' (inSub x L).length (sC (inSub x L)) ∧ Below w.heap.size w w'
theorem takeWhile_all {α : Type} {p : α → Bool} {l : List α} (h : ∀ y ∈ l, p y = true) : l.takeWhile p = l ∧ l.dropWhile p = [] := by
  induction l with
  | nil => exact ⟨rfl, rfl⟩
  | cons a l ih =>
    have h1 := h a (by simp)
    have h2 := ih (fun y hy => h y (by simp [hy]))
    simp [h1, h2]
theorem inSub_end {x : ByteArray × Bool × Int} {L : List (ByteArray × Bool × Int)} (h : ∀ y ∈ woSub x.1 L, y.1.toList < x.1.toList) : inSub x L = woSub x.1 L ++ [x] := by
  have := takeWhile_all (p := fun y : ByteArray × Bool × Int => decide (y.1.toList < x.1.toList)) (fun y hy => decide_eq_true (h y hy))
  unfold inSub
  rw [this.1, this.2]
theorem withS_end {x : ByteArray × Bool × Int} {L : List (ByteArray × Bool × Int)} (h : ∀ y ∈ woSub x.1 L, y.1.toList < x.1.toList) : WithS L x := by
  intro ao cap w hm
  rw [inSub_end h]
  exact withEnd_s ao cap L x w hm h
theorem inSub_mem {x y : ByteArray × Bool × Int} {L : List (ByteArray × Bool × Int)} (h : y ∈ inSub x L) : y = x ∨ y ∈ L := by
  unfold inSub at h
  rcases List.mem_append.1 h with h | h
  · exact .inr (List.mem_filter.1 ((List.takeWhile_sublist _).subset h)).1
  · rcases List.mem_cons.1 h with h | h
    · exact .inl h
    · exact .inr (List.mem_filter.1 ((List.dropWhile_sublist _).subset h)).1
theorem inSub_len (x : ByteArray × Bool × Int) (L : List (ByteArray × Bool × Int)) : (inSub x L).length ≤ L.length + 1 := by
  unfold inSub
  have h1 : (woSub x.1 L).length ≤ L.length := List.length_filter_le _ _
  have h2 := congrArg List.length (List.takeWhile_append_dropWhile (p := fun y : ByteArray × Bool × Int => decide (y.1.toList < x.1.toList)) (l := woSub x.1 L))
  rw [List.length_append] at h2
  rw [List.length_append, List.length_cons]
  omega
def AskS (n : Nd) (s : ByteArray) (d : Int) : Prop := RightN n ∧ addrOk s = true ∧ (decide (0 ≤ d) && decide (d ≤ 255)) = true
def oldS (n : Nd) (s : ByteArray) : Option (ByteArray × Bool × Int) := n.subs.find? (fun x => decide (x.1 = s))
/-- Why a subscription that is well asked for is refused; 0: it is not. -/
def codeS (n : Nd) (s : ByteArray) : Int := if roleL n.affs s = 1 then 3 else if n.acc = 2 ∧ roleL n.affs s < 3 then 6 else match oldS n s with
  | some x => if x.2.1 = true then 7 else 0
  | none => if 16 ≤ n.subs.length then 8 else 0
def newS (n : Nd) (s : ByteArray) (d : Int) : ByteArray × Bool × Int := match oldS n s with
  | some x => (x.1, x.2.1, d)
  | none => (s, decide (n.acc = 1) && decide (roleL n.affs s < 3), d)
def SbsC (n : Nd) (s : ByteArray) (d : Int) (m : Nd) (c : Int) : Prop := (¬ AskS n s d ∧ c = 1 ∧ m = noN) ∨ (AskS n s d ∧ codeS n s ≠ 0 ∧ c = codeS n s ∧ m = noN) ∨ (AskS n s d ∧ codeS n s = 0 ∧ c = 0 ∧ m = { n with subs := inSub (newS n s d) n.subs })
theorem firstSub_ex {l : List (ByteArray × Bool × Int)} {s : ByteArray} {e : Ending} (h : FirstSub l s e) : ∃ ya yp yd b, e = .returned (.tuple #[.agg #[.string ya, .bool yp, .int .i64 yd], .bool b]) ∧ ((b = true ∧ ya = s ∧ l.find? (fun x => decide (x.1 = s)) = some (ya, yp, yd)) ∨ (b = false ∧ l.find? (fun x => decide (x.1 = s)) = none ∧ ya = ⟨#[]⟩ ∧ yp = false ∧ yd = 0)) := by
  rcases h with ⟨x, hx, rfl⟩ | ⟨hx, rfl⟩
  · exact ⟨x.1, x.2.1, x.2.2, true, rfl, .inl ⟨rfl, by simpa using List.find?_some hx, hx⟩⟩
  · exact ⟨_, _, _, false, rfl, .inr ⟨rfl, hx, rfl, rfl, rfl⟩⟩
theorem Bx.other {w W : World} {n : Nd} {v : NdW} {q i : Nat} {x : Value} (h : Bx w n v W) (hm : NdM w.heap.size w n v) (hq : w.heap.size + 2 ≤ q) : Bx w n v (W.setCell ⟨q, i, none⟩ x) := by
  obtain ⟨m', x', hr⟩ := h.r
  have hb := h.bel.setCell (p := ⟨q, i, none⟩) (by show w.heap.size ≤ q; omega) x
  exact ⟨(set_blk _ _ _ _ (by show w.heap.size ≠ q; omega)).trans h.a, ⟨m', x', (set_blk _ _ _ _ (by show w.heap.size + 1 ≠ q; omega)).trans hr⟩, hm.move hb, hb, by rw [size_set]; exact h.size⟩
def setS (w : World) (q : Nat) (a : ByteArray) (p : Bool) (d : Int) : World := ((w.setCell ⟨q, 0, none⟩ (.string a)).setCell ⟨q, 1, none⟩ (.bool p)).setCell ⟨q, 2, none⟩ (.int .i64 d)
theorem store_s {w : World} {q : Nat} {u0 u1 u2 : Value} {a : ByteArray} {p : Bool} {d : Int} (h : w.heap[q]? = some (.cells #[u0, u1, u2] 58)) : (Instr.storeAt 58 (.pointer (some ⟨q, 0, none⟩)) (.agg #[.string a, .bool p, .int .i64 d])).run Tryz.prog w = .ok () (setS w q a p d) := by
  obtain ⟨z0, z1, z2, y0, y1, y2⟩ := cells_s h
  unfold setS
  go_simp
theorem q_call {W W' : World} {q : Nat} {o : Obj} (h : W.heap[q]? = some o) (hb : Below W.heap.size W W') : W'.heap[q]? = some o := (hb.block _ (Array.getElem?_eq_some_iff.1 h).1).trans h
theorem subs_right {n : Nd} (h : RightN n) : n.subs.length ≤ 16 := h.2.2.2.2.2.1.1
set_option maxRecDepth 100000 in
set_option maxHeartbeats 8000000 in
theorem subscribe_any (n : Nd) (v : NdW) (s : ByteArray) (d : Int) (w : World) (hm : NdM w.heap.size w n v) (hg : Glob w) (hs : Fits s) (hws : WithS n.subs (newS n s d)) :
    Calls Tryz.prog 18 #[.agg (ndA n v), .string s, .int .i64 d] w fun e w' => EditR w (SbsC n s d) e w' := by
  have HM := hide hm
  have HWS := hide hws
  have HGw := hide hg
  have HS := hide hs
  clear hws
  obtain ⟨W, hW, fa, fr, bw, zw⟩ := boxes w n v
  have bx : Bx w n v W := ⟨fa, ⟨_, _, fr⟩, hm.move bw, bw, by omega⟩
  have HX := hide bx
  have HG := hide (hg.below bw)
  have HW := hide hW
  have HA := hide fa
  rw [← hW] at HA
  have HRo := hide (role_any n v s W bx.mem.ok)
  rw [← hW] at HRo
  rw [show (ndA noN noW : Array Value) = #[.string ⟨#[]⟩, .bool false, .int .u8 0, .int .i64 0, .slice none 0 0, .slice none 0 0, .slice none 0 0, .string ⟨#[]⟩] from rfl] at HRo
  obtain ⟨ro, hro⟩ : ∃ ro, roleL n.affs s = ro := ⟨_, rfl⟩
  rw [hro] at HRo
  have HROL := hide hro
  clear hro
  have hZ : (ndA noN noW : Array Value) = #[.string ⟨#[]⟩, .bool false, .int .u8 0, .int .i64 0, .slice none 0 0, .slice none 0 0, .slice none 0 0, .string ⟨#[]⟩] := rfl
  rw [hZ] at HA
  clear hm hg hW fa fr bw zw bx hZ
  obtain ⟨C, hC⟩ : ∃ C, SbsC n s d = C := ⟨_, rfl⟩
  rw [hC]
  have HC := hide hC
  clear hC
  go_enter Tryz.func18, Tryz.ntmps18
  go_wp2_with (refine l_load _ (load_nd HA.out) rfl rfl rfl ?_)
  refine HRo.out.mono ?_
  rintro e w1 ⟨rfl, b1⟩
  have x1 : Bx w n v w1 := by
    have h : _ = W := HW.out
    have b1' : Below W.heap.size W w1 := by
      rw [← h]
      exact b1
    exact HX.out.call b1'
  have X1 := hide x1
  clear x1 b1 HRo HA hs
  have HSu := hide (sub_any n v s w1 X1.out.mem.ok)
  go_wp2_with (refine l_load _ (load_nd X1.out.a) rfl rfl rfl ?_)
  refine HSu.out.mono ?_
  rintro e w2 ⟨hfs, b2⟩
  obtain ⟨ya, yp, yd, b, rfl, hold⟩ := firstSub_ex hfs
  have bq := b2.alloc b2.size (.cells #[.string ya, .bool yp, .int .i64 yd] 58)
  have x2 := X1.out.call bq
  have fq := World.alloc_heap_new w2 (.cells #[.string ya, .bool yp, .int .i64 yd] 58)
  have hq2 : w.heap.size + 2 ≤ w2.heap.size := Nat.le_trans X1.out.size b2.size
  have XA := hide x2.a
  have HOLD := hide hold
  clear hfs b2 bq hold HSu
  go_wp2_with (refine l_load _ (load_nd XA.out) rfl rfl rfl ?_; refine stopNd ?_)
  unfold Hid
  obtain ⟨W2, hW2⟩ : ∃ W2, w2.alloc (.cells #[.string ya, .bool yp, .int .i64 yd] 58) = W2 := ⟨_, rfl⟩
  obtain ⟨q, hq⟩ : ∃ q, w2.heap.size = q := ⟨_, rfl⟩
  rw [hW2] at x2 fq ⊢
  rw [hq] at fq hq2 ⊢
  have X2 := hide x2
  have Q2 := hide fq
  have HQ2 := hide hq2
  clear hW2 hq XA x2 fq hq2
  have HRi := hide (rightN_any n v W2 X2.out.mem (HGw.out.below X2.out.bel))
  go_wp2_with fail
  refine HRi.out.mono ?_
  rintro e w3 ⟨⟨p, rfl, hp⟩, b3⟩
  have X3 := hide (X2.out.call b3)
  have Q3 := hide (q_call Q2.out b3)
  have HP := hide hp
  clear b3 hp HRi X2 Q2
  cases p with
  | false =>
    have HC2 := hide (show C noN 1 by rw [← HC.out]; exact .inl ⟨fun h => (by have := HP.out.2 h.1; cases this), rfl, rfl⟩)
    have HRf := hide (refuseN_any 1 w3)
    go_wp2_with fail
    refine HRf.out.mono ?_
    rintro e w8_ ⟨rfl, b2⟩
    have x2 := hide (X3.out.call b2)
    clear b2
    obtain ⟨m', x', hr⟩ := x2.out.r
    have HR := hide hr
    clear hr
    go_wp2_with (refine l_store _ (store_nd (n := noN) (u := noW) HR.out) rfl rfl rfl rfl ?_)
    exact bodyPost_ret (refuse_run x2.out rfl rfl rfl) rfl (refuse_ed x2.out HC2.out)
  | true =>
    have HT := hide (HP.out.1 rfl)
    have hG3 := HGw.out.below X3.out.bel
    have HAd := hide (addr_any s w3 (by have := HS.out; omega) hG3.max hG3.lt)
    obtain ⟨pa, hpa⟩ : ∃ pa, addrOk s = pa := ⟨_, rfl⟩
    rw [hpa] at HAd
    have HPA := hide hpa
    clear hG3 hpa
    go_wp2_with fail
    refine HAd.out.mono ?_
    rintro e w4 ⟨rfl, b4⟩
    have X4 := hide (X3.out.call b4)
    have Q4 := hide (q_call Q3.out b4)
    clear b4 HAd X3 Q3
    cases pa with
    | false =>
      have HC2 := hide (show C noN 1 by rw [← HC.out]; exact .inl ⟨fun h => (by have := h.2.1; rw [HPA.out] at this; cases this), rfl, rfl⟩)
      have HRf := hide (refuseN_any 1 w4)
      go_wp2_with fail
      refine HRf.out.mono ?_
      rintro e w8_ ⟨rfl, b2⟩
      have x2 := hide (X4.out.call b2)
      clear b2
      obtain ⟨m', x', hr⟩ := x2.out.r
      have HR := hide hr
      clear hr
      go_wp2_with (refine l_store _ (store_nd (n := noN) (u := noW) HR.out) rfl rfl rfl rfl ?_)
      exact bodyPost_ret (refuse_run x2.out rfl rfl rfl) rfl (refuse_ed x2.out HC2.out)
    | true =>
      have HDe := hide (isDepth_any d w4)
      obtain ⟨pd, hpd⟩ : ∃ pd, (decide (0 ≤ d) && decide (d ≤ 255)) = pd := ⟨_, rfl⟩
      rw [hpd] at HDe
      have HPD := hide hpd
      clear hpd
      go_wp2_with fail
      refine HDe.out.mono ?_
      rintro e w5 ⟨rfl, hw5⟩
      rw [hw5]
      clear hw5 HDe
      cases pd with
      | false =>
        have HC2 := hide (show C noN 1 by rw [← HC.out]; exact .inl ⟨fun h => (by have := h.2.2; rw [HPD.out] at this; cases this), rfl, rfl⟩)
        have HRf := hide (refuseN_any 1 w4)
        go_wp2_with fail
        refine HRf.out.mono ?_
        rintro e w8_ ⟨rfl, b2⟩
        have x2 := hide (X4.out.call b2)
        clear b2
        obtain ⟨m', x', hr⟩ := x2.out.r
        have HR := hide hr
        clear hr
        go_wp2_with (refine l_store _ (store_nd (n := noN) (u := noW) HR.out) rfl rfl rfl rfl ?_)
        exact bodyPost_ret (refuse_run x2.out rfl rfl rfl) rfl (refuse_ed x2.out HC2.out)
      | true =>
        have HASK := hide (show AskS n s d from ⟨HT.out, HPA.out, HPD.out⟩)
        have HCO : ∃ cs, codeS n s = cs := ⟨_, rfl⟩
        obtain ⟨cs, hcs⟩ := HCO
        have HCS := hide hcs
        clear hcs
        have c2 := (nd_box X4.out.a).2.2.1
        have c5 := (nd_box X4.out.a).2.2.2.2.2.1
        obtain ⟨e0, e1, e2, z0, z1, z2⟩ := cells_s Q4.out
        by_cases h1 : ro = 1
        · have h1e : ((ro : Int) == 1) = true := by rw [h1]; rfl
          have HCV := hide (show codeS n s = 3 by unfold codeS; rw [HROL.out, if_pos h1])
          clear h1
          have HC2 := hide (show C noN 3 by rw [← HC.out]; exact .inr (.inl ⟨HASK.out, by rw [HCV.out]; decide, HCV.out.symm, rfl⟩))
          have HRf := hide (refuseN_any 3 w4)
          go_wp2_with fail
          refine HRf.out.mono ?_
          rintro e w8_ ⟨rfl, b2⟩
          have x2 := hide (X4.out.call b2)
          clear b2
          obtain ⟨m', x', hr⟩ := x2.out.r
          have HR := hide hr
          clear hr
          go_wp2_with (refine l_store _ (store_nd (n := noN) (u := noW) HR.out) rfl rfl rfl rfl ?_)
          exact bodyPost_ret (refuse_run x2.out rfl rfl rfl) rfl (refuse_ed x2.out HC2.out)
        · have h1e : ((ro : Int) == 1) = false := by rw [beq_eq_false_iff_ne]; omega
          have H1 := hide h1
          clear h1
          by_cases h2 : n.acc = 2
          · have h2e : ((n.acc : Int) == 2) = true := by rw [h2]; rfl
            by_cases h3 : (ro : Int) < 3
            · have HCV := hide (show codeS n s = 6 by unfold codeS; rw [HROL.out, if_neg H1.out, if_pos ⟨h2, by omega⟩])
              clear h2
              have HC2 := hide (show C noN 6 by rw [← HC.out]; exact .inr (.inl ⟨HASK.out, by rw [HCV.out]; decide, HCV.out.symm, rfl⟩))
              have HRf := hide (refuseN_any 6 w4)
              go_wp2_with fail
              refine HRf.out.mono ?_
              rintro e w8_ ⟨rfl, b2⟩
              have x2 := hide (X4.out.call b2)
              clear b2
              obtain ⟨m', x', hr⟩ := x2.out.r
              have HR := hide hr
              clear hr
              go_wp2_with (refine l_store _ (store_nd (n := noN) (u := noW) HR.out) rfl rfl rfl rfl ?_)
              exact bodyPost_ret (refuse_run x2.out rfl rfl rfl) rfl (refuse_ed x2.out HC2.out)
            · have HNW := hide (show ¬ (n.acc = 2 ∧ ro < 3) from fun h => h3 (by omega))
              cases b with
              | true =>
                have hold1 : ya = s ∧ oldS n s = some (ya, yp, yd) := by
                  rcases HOLD.out with ⟨_, h1, h2⟩ | ⟨h, _⟩
                  · exact ⟨h1, h2⟩
                  · cases h
                obtain ⟨hya, hfind⟩ := hold1
                have HF := hide (show oldS n s = some (ya, yp, yd) from hfind)
                have HYF := hide (show Fits ya by rw [hya]; exact HS.out)
                clear hya hfind
                cases yp with
                | true =>
                  have HCV := hide (show codeS n s = 7 by unfold codeS; rw [HROL.out, if_neg H1.out, if_neg HNW.out, HF.out]; rfl)
                  have HC2 := hide (show C noN 7 by rw [← HC.out]; exact .inr (.inl ⟨HASK.out, by rw [HCV.out]; decide, HCV.out.symm, rfl⟩))
                  have HRf := hide (refuseN_any 7 w4)
                  go_wp2_with fail
                  refine HRf.out.mono ?_
                  rintro e w8_ ⟨rfl, b2⟩
                  have x2 := hide (X4.out.call b2)
                  clear b2
                  obtain ⟨m', x', hr⟩ := x2.out.r
                  have HR := hide hr
                  clear hr
                  go_wp2_with (refine l_store _ (store_nd (n := noN) (u := noW) HR.out) rfl rfl rfl rfl ?_)
                  exact bodyPost_ret (refuse_run x2.out rfl rfl rfl) rfl (refuse_ed x2.out HC2.out)
                | false =>
                  have HCV := hide (show codeS n s = 0 by unfold codeS; rw [HROL.out, if_neg H1.out, if_neg HNW.out, HF.out]; rfl)
                  have HNEW : newS n s d = (ya, false, d) := by unfold newS; rw [HF.out]
                  have XT := hide (X4.out.other (x := .int .i64 d) (i := 2) HM.out HQ2.out)
                  have QT := hide (heap_setk (i := 2) (v := .int .i64 d) Q4.out)
                  have hWx : WithS n.subs (ya, false, d) := by
                    rw [← HNEW]
                    exact HWS.out
                  have HWX := hide hWx
                  clear hWx HNEW
                  have HFr := hide (fresh_any n v (w4.setCell ⟨q, 2, none⟩ (.int .i64 d)) XT.out.mem)
                  go_wp2_with (refine l_load _ (load_nd XT.out.a) rfl rfl rfl ?_)
                  refine HFr.out.mono ?_
                  rintro e w3 ⟨u, rfl, hu, hfar, b3⟩
                  have x3a := XT.out.call b3
                  have hz2 := XT.out.size
                  have x3 := x3a.put hu ⟨fun a e => by have := hfar.1 a e; omega, fun a e => by have := hfar.2.1 a e; omega, fun a e => by have := hfar.2.2 a e; omega⟩
                  have HFar := hide (show Far w u from ⟨fun a e => by have := hfar.1 a e; omega, fun a e => by have := hfar.2.1 a e; omega, fun a e => by have := hfar.2.2 a e; omega⟩)
                  have X3 := hide x3
                  have HA3 := hide x3a.a
                  clear hu hfar x3a x3 hz2
                  go_wp2_with (refine l_store _ (store_nd (n := n) (u := u) HA3.out) rfl rfl rfl rfl ?_; refine stopNd ?_)
                  unfold Hid
                  have q3 : (setNd w3 w.heap.size n u).heap[q]? = _ := (setNd_far _ (by have := HQ2.out; omega)).trans (q_call QT.out b3)
                  obtain ⟨W3, hW3⟩ : ∃ W3, setNd w3 w.heap.size n u = W3 := ⟨_, rfl⟩
                  rw [hW3] at X3 q3 ⊢
                  clear hW3 HA3 b3
                  have c5 := (nd_box X3.out.a).2.2.2.2.2.1
                  have hwi := HWX.out u.sa u.sc W3 X3.out.mem.ok.2.1
                  obtain ⟨L5, hL5⟩ : ∃ L5, inSub (ya, false, d) n.subs = L5 := ⟨_, rfl⟩
                  have hlen : L5.length ≤ 17 := by rw [← hL5]; exact Nat.le_trans (inSub_len _ _) (Nat.succ_le_succ (subs_right HT.out))
                  have hfit : ∀ x ∈ L5, Fits x.1 := by
                    intro x hx
                    rw [← hL5] at hx
                    rcases inSub_mem hx with h | h
                    · rw [h]; exact HYF.out
                    · exact X3.out.mem.fits.subs x h
                  rw [hL5] at hwi
                  have HL5 := hide hL5
                  have HWi := hide hwi
                  have Q3 := hide q3
                  obtain ⟨e0, e1, e2, _⟩ := cells_s q3
                  have hl3 := load_s (x := (ya, false, d)) e0 e1 e2
                  clear hwi q3 e0 e1 e2 hL5
                  go_wp2_with (refine l_load _ hl3 rfl rfl rfl ?_)
                  refine HWi.out.mono ?_
                  rintro e w7 ⟨v7, rfl, hown7, b7⟩
                  have x7 := X3.out.call b7
                  obtain ⟨g7, c7, hv7, hm7, hc7, _, hb7⟩ := own_s hown7 (by omega)
                  subst hv7
                  have hz6 := X3.out.size
                  have hx8 := x7.setSubs (sa := g7) (sc := c7) (L := L5) HFar.out hm7 hc7 hfit (fun a e => by have := (hb7 a e).1; omega)
                  have z6 := (nd_box x7.a).2.2.2.2.2.1
                  have zf6 : w7.frozen? ⟨w.heap.size, 5, none⟩ = false := by simp [World.frozen?, x7.a]
                  have X8 := hide hx8
                  have HCn := hide (show C { n with subs := L5 } 0 by
                    rw [← HC.out, ← HL5.out]
                    exact .inr (.inr ⟨HASK.out, HCV.out, rfl, by rw [show newS n s d = (ya, false, d) by unfold newS; rw [HF.out]]⟩))
                  clear hx8 x7 hm7 hc7 hown7 b7 hb7 c5 hlen hfit hl3
                  go_wp2_with (refine l_store _ (store_any (size_one25 _) z6 zf6) rfl rfl rfl rfl ?_; refine stopNd ?_)
                  unfold Hid
                  obtain ⟨W8, hW8⟩ : ∃ W8, w7.setCell ⟨w.heap.size, 5, none⟩ (.slice g7 L5.length c7) = W8 := ⟨_, rfl⟩
                  obtain ⟨N8, hN8⟩ : ∃ N8 : Nd, { n with subs := L5 } = N8 := ⟨_, rfl⟩
                  obtain ⟨U8, hU8⟩ : ∃ U8 : NdW, { u with sa := g7, sc := c7 } = U8 := ⟨_, rfl⟩
                  rw [hW8, hN8, hU8] at X8
                  rw [hN8] at HCn
                  rw [hW8]
                  clear hW8 hN8 hU8 z6 zf6
                  go_wp2_with (refine l_load _ (load_nd X8.out.1.a) rfl rfl rfl ?_; refine stopNd ?_)
                  unfold Hid
                  obtain ⟨m', x', hr⟩ := X8.out.1.r
                  have HR := hide hr
                  clear hr
                  refine l_store _ (store_nd (n := N8) (u := U8) HR.out) rfl rfl rfl rfl ?_
                  go_wp2_with fail
                  exact bodyPost_ret (done_run X8.out.1 rfl rfl rfl) rfl (done_ed X8.out.1 HCn.out X8.out.2)
              | false =>
                have hold1 : oldS n s = none ∧ ya = ⟨#[]⟩ ∧ yp = false ∧ yd = 0 := by
                  rcases HOLD.out with ⟨h, _⟩ | ⟨_, h⟩
                  · cases h
                  · exact h
                obtain ⟨hfind, rfl, rfl, rfl⟩ := hold1
                have HF := hide hfind
                have HYF := HS
                clear hfind
                by_cases hl : (16 : Int) ≤ (n.subs.length : Int)
                · have HCV := hide (show codeS n s = 8 by unfold codeS; rw [HROL.out, if_neg H1.out, if_neg HNW.out, HF.out]; exact if_pos (by omega))
                  have HC2 := hide (show C noN 8 by rw [← HC.out]; exact .inr (.inl ⟨HASK.out, by rw [HCV.out]; decide, HCV.out.symm, rfl⟩))
                  have HRf := hide (refuseN_any 8 w4)
                  go_wp2_with fail
                  refine HRf.out.mono ?_
                  rintro e w8_ ⟨rfl, b2⟩
                  have x2 := hide (X4.out.call b2)
                  clear b2
                  obtain ⟨m', x', hr⟩ := x2.out.r
                  have HR := hide hr
                  clear hr
                  go_wp2_with (refine l_store _ (store_nd (n := noN) (u := noW) HR.out) rfl rfl rfl rfl ?_)
                  exact bodyPost_ret (refuse_run x2.out rfl rfl rfl) rfl (refuse_ed x2.out HC2.out)
                · have HCV := hide (show codeS n s = 0 by unfold codeS; rw [HROL.out, if_neg H1.out, if_neg HNW.out, HF.out]; exact if_neg (by omega))
                  have ha : ¬ n.acc = 1 := by omega
                  have hae : ((n.acc : Int) == 1) = false := by rw [beq_eq_false_iff_ne]; omega
                  have HNEW : newS n s d = (s, false, d) := by
                    unfold newS
                    rw [HF.out, HROL.out]
                    simp [ha]
                  have HNEW2 := hide HNEW
                  have X6 := hide (((X4.out.other (x := .string s) (i := 0) HM.out HQ2.out).other (x := .bool false) (i := 1) HM.out HQ2.out).other (x := .int .i64 0) (i := 2) HM.out HQ2.out)
                  have Q6 := hide (set3_s (v0 := .string s) (v1 := .bool false) (v2 := .int .i64 0) Q4.out)
                  clear e0 e1 e2 z0 z1 z2
                  go_wp2_with (refine l_store _ (store_s Q4.out) rfl rfl rfl rfl ?_; refine stopNd ?_)
                  unfold Hid
                  obtain ⟨W6, hW6⟩ : ∃ W6, setS w4 q s false 0 = W6 := ⟨_, rfl⟩
                  rw [hW6]
                  unfold setS at hW6
                  rw [hW6] at X6 Q6
                  clear hW6 c2 c5
                  obtain ⟨e0, e1, e2, z0, z1, z2⟩ := cells_s Q6.out
                  have XT := hide (X6.out.other (x := .int .i64 d) (i := 2) HM.out HQ2.out)
                  have QT := hide (heap_setk (i := 2) (v := .int .i64 d) Q6.out)
                  have hWx : WithS n.subs (s, false, d) := by
                    rw [← HNEW]
                    exact HWS.out
                  have HWX := hide hWx
                  clear hWx HNEW
                  have HFr := hide (fresh_any n v (W6.setCell ⟨q, 2, none⟩ (.int .i64 d)) XT.out.mem)
                  go_wp2_with (refine l_load _ (load_nd XT.out.a) rfl rfl rfl ?_)
                  refine HFr.out.mono ?_
                  rintro e w3 ⟨u, rfl, hu, hfar, b3⟩
                  have x3a := XT.out.call b3
                  have hz2 := XT.out.size
                  have x3 := x3a.put hu ⟨fun a e => by have := hfar.1 a e; omega, fun a e => by have := hfar.2.1 a e; omega, fun a e => by have := hfar.2.2 a e; omega⟩
                  have HFar := hide (show Far w u from ⟨fun a e => by have := hfar.1 a e; omega, fun a e => by have := hfar.2.1 a e; omega, fun a e => by have := hfar.2.2 a e; omega⟩)
                  have X3 := hide x3
                  have HA3 := hide x3a.a
                  clear hu hfar x3a x3 hz2
                  go_wp2_with (refine l_store _ (store_nd (n := n) (u := u) HA3.out) rfl rfl rfl rfl ?_; refine stopNd ?_)
                  unfold Hid
                  have q3 : (setNd w3 w.heap.size n u).heap[q]? = _ := (setNd_far _ (by have := HQ2.out; omega)).trans (q_call QT.out b3)
                  obtain ⟨W3, hW3⟩ : ∃ W3, setNd w3 w.heap.size n u = W3 := ⟨_, rfl⟩
                  rw [hW3] at X3 q3 ⊢
                  clear hW3 HA3 b3
                  have c5 := (nd_box X3.out.a).2.2.2.2.2.1
                  have hwi := HWX.out u.sa u.sc W3 X3.out.mem.ok.2.1
                  obtain ⟨L5, hL5⟩ : ∃ L5, inSub (s, false, d) n.subs = L5 := ⟨_, rfl⟩
                  have hlen : L5.length ≤ 17 := by rw [← hL5]; exact Nat.le_trans (inSub_len _ _) (Nat.succ_le_succ (subs_right HT.out))
                  have hfit : ∀ x ∈ L5, Fits x.1 := by
                    intro x hx
                    rw [← hL5] at hx
                    rcases inSub_mem hx with h | h
                    · rw [h]; exact HYF.out
                    · exact X3.out.mem.fits.subs x h
                  rw [hL5] at hwi
                  have HL5 := hide hL5
                  have HWi := hide hwi
                  have Q3 := hide q3
                  obtain ⟨e0, e1, e2, _⟩ := cells_s q3
                  have hl3 := load_s (x := (s, false, d)) e0 e1 e2
                  clear hwi q3 e0 e1 e2 hL5
                  go_wp2_with (refine l_load _ hl3 rfl rfl rfl ?_)
                  refine HWi.out.mono ?_
                  rintro e w7 ⟨v7, rfl, hown7, b7⟩
                  have x7 := X3.out.call b7
                  obtain ⟨g7, c7, hv7, hm7, hc7, _, hb7⟩ := own_s hown7 (by omega)
                  subst hv7
                  have hz6 := X3.out.size
                  have hx8 := x7.setSubs (sa := g7) (sc := c7) (L := L5) HFar.out hm7 hc7 hfit (fun a e => by have := (hb7 a e).1; omega)
                  have z6 := (nd_box x7.a).2.2.2.2.2.1
                  have zf6 : w7.frozen? ⟨w.heap.size, 5, none⟩ = false := by simp [World.frozen?, x7.a]
                  have X8 := hide hx8
                  have HCn := hide (show C { n with subs := L5 } 0 by
                    rw [← HC.out, ← HL5.out]
                    exact .inr (.inr ⟨HASK.out, HCV.out, rfl, by rw [HNEW2.out]⟩))
                  clear hx8 x7 hm7 hc7 hown7 b7 hb7 c5 hlen hfit hl3
                  go_wp2_with (refine l_store _ (store_any (size_one25 _) z6 zf6) rfl rfl rfl rfl ?_; refine stopNd ?_)
                  unfold Hid
                  obtain ⟨W8, hW8⟩ : ∃ W8, w7.setCell ⟨w.heap.size, 5, none⟩ (.slice g7 L5.length c7) = W8 := ⟨_, rfl⟩
                  obtain ⟨N8, hN8⟩ : ∃ N8 : Nd, { n with subs := L5 } = N8 := ⟨_, rfl⟩
                  obtain ⟨U8, hU8⟩ : ∃ U8 : NdW, { u with sa := g7, sc := c7 } = U8 := ⟨_, rfl⟩
                  rw [hW8, hN8, hU8] at X8
                  rw [hN8] at HCn
                  rw [hW8]
                  clear hW8 hN8 hU8 z6 zf6
                  go_wp2_with (refine l_load _ (load_nd X8.out.1.a) rfl rfl rfl ?_; refine stopNd ?_)
                  unfold Hid
                  obtain ⟨m', x', hr⟩ := X8.out.1.r
                  have HR := hide hr
                  clear hr
                  refine l_store _ (store_nd (n := N8) (u := U8) HR.out) rfl rfl rfl rfl ?_
                  go_wp2_with fail
                  exact bodyPost_ret (done_run X8.out.1 rfl rfl rfl) rfl (done_ed X8.out.1 HCn.out X8.out.2)
          · have h2e : ((n.acc : Int) == 2) = false := by rw [beq_eq_false_iff_ne]; omega
            have HNW := hide (show ¬ (n.acc = 2 ∧ ro < 3) from fun h => h2 h.1)
            cases b with
            | true =>
              have hold1 : ya = s ∧ oldS n s = some (ya, yp, yd) := by
                rcases HOLD.out with ⟨_, h1, h2⟩ | ⟨h, _⟩
                · exact ⟨h1, h2⟩
                · cases h
              obtain ⟨hya, hfind⟩ := hold1
              have HF := hide (show oldS n s = some (ya, yp, yd) from hfind)
              have HYF := hide (show Fits ya by rw [hya]; exact HS.out)
              clear hya hfind
              cases yp with
              | true =>
                have HCV := hide (show codeS n s = 7 by unfold codeS; rw [HROL.out, if_neg H1.out, if_neg HNW.out, HF.out]; rfl)
                have HC2 := hide (show C noN 7 by rw [← HC.out]; exact .inr (.inl ⟨HASK.out, by rw [HCV.out]; decide, HCV.out.symm, rfl⟩))
                have HRf := hide (refuseN_any 7 w4)
                go_wp2_with fail
                refine HRf.out.mono ?_
                rintro e w8_ ⟨rfl, b2⟩
                have x2 := hide (X4.out.call b2)
                clear b2
                obtain ⟨m', x', hr⟩ := x2.out.r
                have HR := hide hr
                clear hr
                go_wp2_with (refine l_store _ (store_nd (n := noN) (u := noW) HR.out) rfl rfl rfl rfl ?_)
                exact bodyPost_ret (refuse_run x2.out rfl rfl rfl) rfl (refuse_ed x2.out HC2.out)
              | false =>
                have HCV := hide (show codeS n s = 0 by unfold codeS; rw [HROL.out, if_neg H1.out, if_neg HNW.out, HF.out]; rfl)
                have HNEW : newS n s d = (ya, false, d) := by unfold newS; rw [HF.out]
                have XT := hide (X4.out.other (x := .int .i64 d) (i := 2) HM.out HQ2.out)
                have QT := hide (heap_setk (i := 2) (v := .int .i64 d) Q4.out)
                have hWx : WithS n.subs (ya, false, d) := by
                  rw [← HNEW]
                  exact HWS.out
                have HWX := hide hWx
                clear hWx HNEW
                have HFr := hide (fresh_any n v (w4.setCell ⟨q, 2, none⟩ (.int .i64 d)) XT.out.mem)
                go_wp2_with (refine l_load _ (load_nd XT.out.a) rfl rfl rfl ?_)
                refine HFr.out.mono ?_
                rintro e w3 ⟨u, rfl, hu, hfar, b3⟩
                have x3a := XT.out.call b3
                have hz2 := XT.out.size
                have x3 := x3a.put hu ⟨fun a e => by have := hfar.1 a e; omega, fun a e => by have := hfar.2.1 a e; omega, fun a e => by have := hfar.2.2 a e; omega⟩
                have HFar := hide (show Far w u from ⟨fun a e => by have := hfar.1 a e; omega, fun a e => by have := hfar.2.1 a e; omega, fun a e => by have := hfar.2.2 a e; omega⟩)
                have X3 := hide x3
                have HA3 := hide x3a.a
                clear hu hfar x3a x3 hz2
                go_wp2_with (refine l_store _ (store_nd (n := n) (u := u) HA3.out) rfl rfl rfl rfl ?_; refine stopNd ?_)
                unfold Hid
                have q3 : (setNd w3 w.heap.size n u).heap[q]? = _ := (setNd_far _ (by have := HQ2.out; omega)).trans (q_call QT.out b3)
                obtain ⟨W3, hW3⟩ : ∃ W3, setNd w3 w.heap.size n u = W3 := ⟨_, rfl⟩
                rw [hW3] at X3 q3 ⊢
                clear hW3 HA3 b3
                have c5 := (nd_box X3.out.a).2.2.2.2.2.1
                have hwi := HWX.out u.sa u.sc W3 X3.out.mem.ok.2.1
                obtain ⟨L5, hL5⟩ : ∃ L5, inSub (ya, false, d) n.subs = L5 := ⟨_, rfl⟩
                have hlen : L5.length ≤ 17 := by rw [← hL5]; exact Nat.le_trans (inSub_len _ _) (Nat.succ_le_succ (subs_right HT.out))
                have hfit : ∀ x ∈ L5, Fits x.1 := by
                  intro x hx
                  rw [← hL5] at hx
                  rcases inSub_mem hx with h | h
                  · rw [h]; exact HYF.out
                  · exact X3.out.mem.fits.subs x h
                rw [hL5] at hwi
                have HL5 := hide hL5
                have HWi := hide hwi
                have Q3 := hide q3
                obtain ⟨e0, e1, e2, _⟩ := cells_s q3
                have hl3 := load_s (x := (ya, false, d)) e0 e1 e2
                clear hwi q3 e0 e1 e2 hL5
                go_wp2_with (refine l_load _ hl3 rfl rfl rfl ?_)
                refine HWi.out.mono ?_
                rintro e w7 ⟨v7, rfl, hown7, b7⟩
                have x7 := X3.out.call b7
                obtain ⟨g7, c7, hv7, hm7, hc7, _, hb7⟩ := own_s hown7 (by omega)
                subst hv7
                have hz6 := X3.out.size
                have hx8 := x7.setSubs (sa := g7) (sc := c7) (L := L5) HFar.out hm7 hc7 hfit (fun a e => by have := (hb7 a e).1; omega)
                have z6 := (nd_box x7.a).2.2.2.2.2.1
                have zf6 : w7.frozen? ⟨w.heap.size, 5, none⟩ = false := by simp [World.frozen?, x7.a]
                have X8 := hide hx8
                have HCn := hide (show C { n with subs := L5 } 0 by
                  rw [← HC.out, ← HL5.out]
                  exact .inr (.inr ⟨HASK.out, HCV.out, rfl, by rw [show newS n s d = (ya, false, d) by unfold newS; rw [HF.out]]⟩))
                clear hx8 x7 hm7 hc7 hown7 b7 hb7 c5 hlen hfit hl3
                go_wp2_with (refine l_store _ (store_any (size_one25 _) z6 zf6) rfl rfl rfl rfl ?_; refine stopNd ?_)
                unfold Hid
                obtain ⟨W8, hW8⟩ : ∃ W8, w7.setCell ⟨w.heap.size, 5, none⟩ (.slice g7 L5.length c7) = W8 := ⟨_, rfl⟩
                obtain ⟨N8, hN8⟩ : ∃ N8 : Nd, { n with subs := L5 } = N8 := ⟨_, rfl⟩
                obtain ⟨U8, hU8⟩ : ∃ U8 : NdW, { u with sa := g7, sc := c7 } = U8 := ⟨_, rfl⟩
                rw [hW8, hN8, hU8] at X8
                rw [hN8] at HCn
                rw [hW8]
                clear hW8 hN8 hU8 z6 zf6
                go_wp2_with (refine l_load _ (load_nd X8.out.1.a) rfl rfl rfl ?_; refine stopNd ?_)
                unfold Hid
                obtain ⟨m', x', hr⟩ := X8.out.1.r
                have HR := hide hr
                clear hr
                refine l_store _ (store_nd (n := N8) (u := U8) HR.out) rfl rfl rfl rfl ?_
                go_wp2_with fail
                exact bodyPost_ret (done_run X8.out.1 rfl rfl rfl) rfl (done_ed X8.out.1 HCn.out X8.out.2)
            | false =>
              have hold1 : oldS n s = none ∧ ya = ⟨#[]⟩ ∧ yp = false ∧ yd = 0 := by
                rcases HOLD.out with ⟨h, _⟩ | ⟨_, h⟩
                · cases h
                · exact h
              obtain ⟨hfind, rfl, rfl, rfl⟩ := hold1
              have HF := hide hfind
              have HYF := HS
              clear hfind
              by_cases hl : (16 : Int) ≤ (n.subs.length : Int)
              · have HCV := hide (show codeS n s = 8 by unfold codeS; rw [HROL.out, if_neg H1.out, if_neg HNW.out, HF.out]; exact if_pos (by omega))
                have HC2 := hide (show C noN 8 by rw [← HC.out]; exact .inr (.inl ⟨HASK.out, by rw [HCV.out]; decide, HCV.out.symm, rfl⟩))
                have HRf := hide (refuseN_any 8 w4)
                go_wp2_with fail
                refine HRf.out.mono ?_
                rintro e w8_ ⟨rfl, b2⟩
                have x2 := hide (X4.out.call b2)
                clear b2
                obtain ⟨m', x', hr⟩ := x2.out.r
                have HR := hide hr
                clear hr
                go_wp2_with (refine l_store _ (store_nd (n := noN) (u := noW) HR.out) rfl rfl rfl rfl ?_)
                exact bodyPost_ret (refuse_run x2.out rfl rfl rfl) rfl (refuse_ed x2.out HC2.out)
              · have HCV := hide (show codeS n s = 0 by unfold codeS; rw [HROL.out, if_neg H1.out, if_neg HNW.out, HF.out]; exact if_neg (by omega))
                by_cases ha : n.acc = 1
                · have hae : ((n.acc : Int) == 1) = true := by rw [ha]; rfl
                  by_cases h3 : (ro : Int) < 3
                  · have h3n : ro < 3 := by omega
                    have HNEW : newS n s d = (s, true, d) := by
                      unfold newS
                      rw [HF.out, HROL.out]
                      simp [ha, h3n]
                    have HNEW2 := hide HNEW
                    have X6 := hide (((X4.out.other (x := .string s) (i := 0) HM.out HQ2.out).other (x := .bool true) (i := 1) HM.out HQ2.out).other (x := .int .i64 0) (i := 2) HM.out HQ2.out)
                    have Q6 := hide (set3_s (v0 := .string s) (v1 := .bool true) (v2 := .int .i64 0) Q4.out)
                    clear e0 e1 e2 z0 z1 z2
                    go_wp2_with (refine l_store _ (store_s Q4.out) rfl rfl rfl rfl ?_; refine stopNd ?_)
                    unfold Hid
                    obtain ⟨W6, hW6⟩ : ∃ W6, setS w4 q s true 0 = W6 := ⟨_, rfl⟩
                    rw [hW6]
                    unfold setS at hW6
                    rw [hW6] at X6 Q6
                    clear hW6 c2 c5
                    obtain ⟨e0, e1, e2, z0, z1, z2⟩ := cells_s Q6.out
                    have XT := hide (X6.out.other (x := .int .i64 d) (i := 2) HM.out HQ2.out)
                    have QT := hide (heap_setk (i := 2) (v := .int .i64 d) Q6.out)
                    have hWx : WithS n.subs (s, true, d) := by
                      rw [← HNEW]
                      exact HWS.out
                    have HWX := hide hWx
                    clear hWx HNEW
                    have HFr := hide (fresh_any n v (W6.setCell ⟨q, 2, none⟩ (.int .i64 d)) XT.out.mem)
                    go_wp2_with (refine l_load _ (load_nd XT.out.a) rfl rfl rfl ?_)
                    refine HFr.out.mono ?_
                    rintro e w3 ⟨u, rfl, hu, hfar, b3⟩
                    have x3a := XT.out.call b3
                    have hz2 := XT.out.size
                    have x3 := x3a.put hu ⟨fun a e => by have := hfar.1 a e; omega, fun a e => by have := hfar.2.1 a e; omega, fun a e => by have := hfar.2.2 a e; omega⟩
                    have HFar := hide (show Far w u from ⟨fun a e => by have := hfar.1 a e; omega, fun a e => by have := hfar.2.1 a e; omega, fun a e => by have := hfar.2.2 a e; omega⟩)
                    have X3 := hide x3
                    have HA3 := hide x3a.a
                    clear hu hfar x3a x3 hz2
                    go_wp2_with (refine l_store _ (store_nd (n := n) (u := u) HA3.out) rfl rfl rfl rfl ?_; refine stopNd ?_)
                    unfold Hid
                    have q3 : (setNd w3 w.heap.size n u).heap[q]? = _ := (setNd_far _ (by have := HQ2.out; omega)).trans (q_call QT.out b3)
                    obtain ⟨W3, hW3⟩ : ∃ W3, setNd w3 w.heap.size n u = W3 := ⟨_, rfl⟩
                    rw [hW3] at X3 q3 ⊢
                    clear hW3 HA3 b3
                    have c5 := (nd_box X3.out.a).2.2.2.2.2.1
                    have hwi := HWX.out u.sa u.sc W3 X3.out.mem.ok.2.1
                    obtain ⟨L5, hL5⟩ : ∃ L5, inSub (s, true, d) n.subs = L5 := ⟨_, rfl⟩
                    have hlen : L5.length ≤ 17 := by rw [← hL5]; exact Nat.le_trans (inSub_len _ _) (Nat.succ_le_succ (subs_right HT.out))
                    have hfit : ∀ x ∈ L5, Fits x.1 := by
                      intro x hx
                      rw [← hL5] at hx
                      rcases inSub_mem hx with h | h
                      · rw [h]; exact HYF.out
                      · exact X3.out.mem.fits.subs x h
                    rw [hL5] at hwi
                    have HL5 := hide hL5
                    have HWi := hide hwi
                    have Q3 := hide q3
                    obtain ⟨e0, e1, e2, _⟩ := cells_s q3
                    have hl3 := load_s (x := (s, true, d)) e0 e1 e2
                    clear hwi q3 e0 e1 e2 hL5
                    go_wp2_with (refine l_load _ hl3 rfl rfl rfl ?_)
                    refine HWi.out.mono ?_
                    rintro e w7 ⟨v7, rfl, hown7, b7⟩
                    have x7 := X3.out.call b7
                    obtain ⟨g7, c7, hv7, hm7, hc7, _, hb7⟩ := own_s hown7 (by omega)
                    subst hv7
                    have hz6 := X3.out.size
                    have hx8 := x7.setSubs (sa := g7) (sc := c7) (L := L5) HFar.out hm7 hc7 hfit (fun a e => by have := (hb7 a e).1; omega)
                    have z6 := (nd_box x7.a).2.2.2.2.2.1
                    have zf6 : w7.frozen? ⟨w.heap.size, 5, none⟩ = false := by simp [World.frozen?, x7.a]
                    have X8 := hide hx8
                    have HCn := hide (show C { n with subs := L5 } 0 by
                      rw [← HC.out, ← HL5.out]
                      exact .inr (.inr ⟨HASK.out, HCV.out, rfl, by rw [HNEW2.out]⟩))
                    clear hx8 x7 hm7 hc7 hown7 b7 hb7 c5 hlen hfit hl3
                    go_wp2_with (refine l_store _ (store_any (size_one25 _) z6 zf6) rfl rfl rfl rfl ?_; refine stopNd ?_)
                    unfold Hid
                    obtain ⟨W8, hW8⟩ : ∃ W8, w7.setCell ⟨w.heap.size, 5, none⟩ (.slice g7 L5.length c7) = W8 := ⟨_, rfl⟩
                    obtain ⟨N8, hN8⟩ : ∃ N8 : Nd, { n with subs := L5 } = N8 := ⟨_, rfl⟩
                    obtain ⟨U8, hU8⟩ : ∃ U8 : NdW, { u with sa := g7, sc := c7 } = U8 := ⟨_, rfl⟩
                    rw [hW8, hN8, hU8] at X8
                    rw [hN8] at HCn
                    rw [hW8]
                    clear hW8 hN8 hU8 z6 zf6
                    go_wp2_with (refine l_load _ (load_nd X8.out.1.a) rfl rfl rfl ?_; refine stopNd ?_)
                    unfold Hid
                    obtain ⟨m', x', hr⟩ := X8.out.1.r
                    have HR := hide hr
                    clear hr
                    refine l_store _ (store_nd (n := N8) (u := U8) HR.out) rfl rfl rfl rfl ?_
                    go_wp2_with fail
                    exact bodyPost_ret (done_run X8.out.1 rfl rfl rfl) rfl (done_ed X8.out.1 HCn.out X8.out.2)
                  · have h3d : decide ((ro : Int) < 3) = false := decide_eq_false h3
                    have HNEW : newS n s d = (s, false, d) := by
                      unfold newS
                      rw [HF.out, HROL.out]
                      simp; omega
                    have HNEW2 := hide HNEW
                    have X6 := hide (((X4.out.other (x := .string s) (i := 0) HM.out HQ2.out).other (x := .bool false) (i := 1) HM.out HQ2.out).other (x := .int .i64 0) (i := 2) HM.out HQ2.out)
                    have Q6 := hide (set3_s (v0 := .string s) (v1 := .bool false) (v2 := .int .i64 0) Q4.out)
                    clear e0 e1 e2 z0 z1 z2
                    go_wp2_with (refine l_store _ (store_s Q4.out) rfl rfl rfl rfl ?_; refine stopNd ?_)
                    unfold Hid
                    obtain ⟨W6, hW6⟩ : ∃ W6, setS w4 q s false 0 = W6 := ⟨_, rfl⟩
                    rw [hW6]
                    unfold setS at hW6
                    rw [hW6] at X6 Q6
                    clear hW6 c2 c5
                    obtain ⟨e0, e1, e2, z0, z1, z2⟩ := cells_s Q6.out
                    have XT := hide (X6.out.other (x := .int .i64 d) (i := 2) HM.out HQ2.out)
                    have QT := hide (heap_setk (i := 2) (v := .int .i64 d) Q6.out)
                    have hWx : WithS n.subs (s, false, d) := by
                      rw [← HNEW]
                      exact HWS.out
                    have HWX := hide hWx
                    clear hWx HNEW
                    have HFr := hide (fresh_any n v (W6.setCell ⟨q, 2, none⟩ (.int .i64 d)) XT.out.mem)
                    go_wp2_with (refine l_load _ (load_nd XT.out.a) rfl rfl rfl ?_)
                    refine HFr.out.mono ?_
                    rintro e w3 ⟨u, rfl, hu, hfar, b3⟩
                    have x3a := XT.out.call b3
                    have hz2 := XT.out.size
                    have x3 := x3a.put hu ⟨fun a e => by have := hfar.1 a e; omega, fun a e => by have := hfar.2.1 a e; omega, fun a e => by have := hfar.2.2 a e; omega⟩
                    have HFar := hide (show Far w u from ⟨fun a e => by have := hfar.1 a e; omega, fun a e => by have := hfar.2.1 a e; omega, fun a e => by have := hfar.2.2 a e; omega⟩)
                    have X3 := hide x3
                    have HA3 := hide x3a.a
                    clear hu hfar x3a x3 hz2
                    go_wp2_with (refine l_store _ (store_nd (n := n) (u := u) HA3.out) rfl rfl rfl rfl ?_; refine stopNd ?_)
                    unfold Hid
                    have q3 : (setNd w3 w.heap.size n u).heap[q]? = _ := (setNd_far _ (by have := HQ2.out; omega)).trans (q_call QT.out b3)
                    obtain ⟨W3, hW3⟩ : ∃ W3, setNd w3 w.heap.size n u = W3 := ⟨_, rfl⟩
                    rw [hW3] at X3 q3 ⊢
                    clear hW3 HA3 b3
                    have c5 := (nd_box X3.out.a).2.2.2.2.2.1
                    have hwi := HWX.out u.sa u.sc W3 X3.out.mem.ok.2.1
                    obtain ⟨L5, hL5⟩ : ∃ L5, inSub (s, false, d) n.subs = L5 := ⟨_, rfl⟩
                    have hlen : L5.length ≤ 17 := by rw [← hL5]; exact Nat.le_trans (inSub_len _ _) (Nat.succ_le_succ (subs_right HT.out))
                    have hfit : ∀ x ∈ L5, Fits x.1 := by
                      intro x hx
                      rw [← hL5] at hx
                      rcases inSub_mem hx with h | h
                      · rw [h]; exact HYF.out
                      · exact X3.out.mem.fits.subs x h
                    rw [hL5] at hwi
                    have HL5 := hide hL5
                    have HWi := hide hwi
                    have Q3 := hide q3
                    obtain ⟨e0, e1, e2, _⟩ := cells_s q3
                    have hl3 := load_s (x := (s, false, d)) e0 e1 e2
                    clear hwi q3 e0 e1 e2 hL5
                    go_wp2_with (refine l_load _ hl3 rfl rfl rfl ?_)
                    refine HWi.out.mono ?_
                    rintro e w7 ⟨v7, rfl, hown7, b7⟩
                    have x7 := X3.out.call b7
                    obtain ⟨g7, c7, hv7, hm7, hc7, _, hb7⟩ := own_s hown7 (by omega)
                    subst hv7
                    have hz6 := X3.out.size
                    have hx8 := x7.setSubs (sa := g7) (sc := c7) (L := L5) HFar.out hm7 hc7 hfit (fun a e => by have := (hb7 a e).1; omega)
                    have z6 := (nd_box x7.a).2.2.2.2.2.1
                    have zf6 : w7.frozen? ⟨w.heap.size, 5, none⟩ = false := by simp [World.frozen?, x7.a]
                    have X8 := hide hx8
                    have HCn := hide (show C { n with subs := L5 } 0 by
                      rw [← HC.out, ← HL5.out]
                      exact .inr (.inr ⟨HASK.out, HCV.out, rfl, by rw [HNEW2.out]⟩))
                    clear hx8 x7 hm7 hc7 hown7 b7 hb7 c5 hlen hfit hl3
                    go_wp2_with (refine l_store _ (store_any (size_one25 _) z6 zf6) rfl rfl rfl rfl ?_; refine stopNd ?_)
                    unfold Hid
                    obtain ⟨W8, hW8⟩ : ∃ W8, w7.setCell ⟨w.heap.size, 5, none⟩ (.slice g7 L5.length c7) = W8 := ⟨_, rfl⟩
                    obtain ⟨N8, hN8⟩ : ∃ N8 : Nd, { n with subs := L5 } = N8 := ⟨_, rfl⟩
                    obtain ⟨U8, hU8⟩ : ∃ U8 : NdW, { u with sa := g7, sc := c7 } = U8 := ⟨_, rfl⟩
                    rw [hW8, hN8, hU8] at X8
                    rw [hN8] at HCn
                    rw [hW8]
                    clear hW8 hN8 hU8 z6 zf6
                    go_wp2_with (refine l_load _ (load_nd X8.out.1.a) rfl rfl rfl ?_; refine stopNd ?_)
                    unfold Hid
                    obtain ⟨m', x', hr⟩ := X8.out.1.r
                    have HR := hide hr
                    clear hr
                    refine l_store _ (store_nd (n := N8) (u := U8) HR.out) rfl rfl rfl rfl ?_
                    go_wp2_with fail
                    exact bodyPost_ret (done_run X8.out.1 rfl rfl rfl) rfl (done_ed X8.out.1 HCn.out X8.out.2)
                · have hae : ((n.acc : Int) == 1) = false := by rw [beq_eq_false_iff_ne]; omega
                  have HNEW : newS n s d = (s, false, d) := by
                    unfold newS
                    rw [HF.out, HROL.out]
                    simp [ha]
                  have HNEW2 := hide HNEW
                  have X6 := hide (((X4.out.other (x := .string s) (i := 0) HM.out HQ2.out).other (x := .bool false) (i := 1) HM.out HQ2.out).other (x := .int .i64 0) (i := 2) HM.out HQ2.out)
                  have Q6 := hide (set3_s (v0 := .string s) (v1 := .bool false) (v2 := .int .i64 0) Q4.out)
                  clear e0 e1 e2 z0 z1 z2
                  go_wp2_with (refine l_store _ (store_s Q4.out) rfl rfl rfl rfl ?_; refine stopNd ?_)
                  unfold Hid
                  obtain ⟨W6, hW6⟩ : ∃ W6, setS w4 q s false 0 = W6 := ⟨_, rfl⟩
                  rw [hW6]
                  unfold setS at hW6
                  rw [hW6] at X6 Q6
                  clear hW6 c2 c5
                  obtain ⟨e0, e1, e2, z0, z1, z2⟩ := cells_s Q6.out
                  have XT := hide (X6.out.other (x := .int .i64 d) (i := 2) HM.out HQ2.out)
                  have QT := hide (heap_setk (i := 2) (v := .int .i64 d) Q6.out)
                  have hWx : WithS n.subs (s, false, d) := by
                    rw [← HNEW]
                    exact HWS.out
                  have HWX := hide hWx
                  clear hWx HNEW
                  have HFr := hide (fresh_any n v (W6.setCell ⟨q, 2, none⟩ (.int .i64 d)) XT.out.mem)
                  go_wp2_with (refine l_load _ (load_nd XT.out.a) rfl rfl rfl ?_)
                  refine HFr.out.mono ?_
                  rintro e w3 ⟨u, rfl, hu, hfar, b3⟩
                  have x3a := XT.out.call b3
                  have hz2 := XT.out.size
                  have x3 := x3a.put hu ⟨fun a e => by have := hfar.1 a e; omega, fun a e => by have := hfar.2.1 a e; omega, fun a e => by have := hfar.2.2 a e; omega⟩
                  have HFar := hide (show Far w u from ⟨fun a e => by have := hfar.1 a e; omega, fun a e => by have := hfar.2.1 a e; omega, fun a e => by have := hfar.2.2 a e; omega⟩)
                  have X3 := hide x3
                  have HA3 := hide x3a.a
                  clear hu hfar x3a x3 hz2
                  go_wp2_with (refine l_store _ (store_nd (n := n) (u := u) HA3.out) rfl rfl rfl rfl ?_; refine stopNd ?_)
                  unfold Hid
                  have q3 : (setNd w3 w.heap.size n u).heap[q]? = _ := (setNd_far _ (by have := HQ2.out; omega)).trans (q_call QT.out b3)
                  obtain ⟨W3, hW3⟩ : ∃ W3, setNd w3 w.heap.size n u = W3 := ⟨_, rfl⟩
                  rw [hW3] at X3 q3 ⊢
                  clear hW3 HA3 b3
                  have c5 := (nd_box X3.out.a).2.2.2.2.2.1
                  have hwi := HWX.out u.sa u.sc W3 X3.out.mem.ok.2.1
                  obtain ⟨L5, hL5⟩ : ∃ L5, inSub (s, false, d) n.subs = L5 := ⟨_, rfl⟩
                  have hlen : L5.length ≤ 17 := by rw [← hL5]; exact Nat.le_trans (inSub_len _ _) (Nat.succ_le_succ (subs_right HT.out))
                  have hfit : ∀ x ∈ L5, Fits x.1 := by
                    intro x hx
                    rw [← hL5] at hx
                    rcases inSub_mem hx with h | h
                    · rw [h]; exact HYF.out
                    · exact X3.out.mem.fits.subs x h
                  rw [hL5] at hwi
                  have HL5 := hide hL5
                  have HWi := hide hwi
                  have Q3 := hide q3
                  obtain ⟨e0, e1, e2, _⟩ := cells_s q3
                  have hl3 := load_s (x := (s, false, d)) e0 e1 e2
                  clear hwi q3 e0 e1 e2 hL5
                  go_wp2_with (refine l_load _ hl3 rfl rfl rfl ?_)
                  refine HWi.out.mono ?_
                  rintro e w7 ⟨v7, rfl, hown7, b7⟩
                  have x7 := X3.out.call b7
                  obtain ⟨g7, c7, hv7, hm7, hc7, _, hb7⟩ := own_s hown7 (by omega)
                  subst hv7
                  have hz6 := X3.out.size
                  have hx8 := x7.setSubs (sa := g7) (sc := c7) (L := L5) HFar.out hm7 hc7 hfit (fun a e => by have := (hb7 a e).1; omega)
                  have z6 := (nd_box x7.a).2.2.2.2.2.1
                  have zf6 : w7.frozen? ⟨w.heap.size, 5, none⟩ = false := by simp [World.frozen?, x7.a]
                  have X8 := hide hx8
                  have HCn := hide (show C { n with subs := L5 } 0 by
                    rw [← HC.out, ← HL5.out]
                    exact .inr (.inr ⟨HASK.out, HCV.out, rfl, by rw [HNEW2.out]⟩))
                  clear hx8 x7 hm7 hc7 hown7 b7 hb7 c5 hlen hfit hl3
                  go_wp2_with (refine l_store _ (store_any (size_one25 _) z6 zf6) rfl rfl rfl rfl ?_; refine stopNd ?_)
                  unfold Hid
                  obtain ⟨W8, hW8⟩ : ∃ W8, w7.setCell ⟨w.heap.size, 5, none⟩ (.slice g7 L5.length c7) = W8 := ⟨_, rfl⟩
                  obtain ⟨N8, hN8⟩ : ∃ N8 : Nd, { n with subs := L5 } = N8 := ⟨_, rfl⟩
                  obtain ⟨U8, hU8⟩ : ∃ U8 : NdW, { u with sa := g7, sc := c7 } = U8 := ⟨_, rfl⟩
                  rw [hW8, hN8, hU8] at X8
                  rw [hN8] at HCn
                  rw [hW8]
                  clear hW8 hN8 hU8 z6 zf6
                  go_wp2_with (refine l_load _ (load_nd X8.out.1.a) rfl rfl rfl ?_; refine stopNd ?_)
                  unfold Hid
                  obtain ⟨m', x', hr⟩ := X8.out.1.r
                  have HR := hide hr
                  clear hr
                  refine l_store _ (store_nd (n := N8) (u := U8) HR.out) rfl rfl rfl rfl ?_
                  go_wp2_with fail
                  exact bodyPost_ret (done_run X8.out.1 rfl rfl rfl) rfl (done_ed X8.out.1 HCn.out X8.out.2)
end Go.Proofs.YtimhkgpjfppkmaaGreatDoor
