/- Names: what is an address that somebody is known by. -/
import Derived.Test.YtimhkgpjfppkmaaDoorNq0
import Derived.Test.YtimhkgpjfppkmaaDoorGD
namespace Go.Proofs.YtimhkgpjfppkmaaDoor.Jd
open Go.RowKit

theorem ex_anyv {o : Oper} {a : Act} {w : World} {s : Operand} {v : Value} (ho : o.op = .assign s) (hs : a.eval s = v) : (execOp a.eval o).run Tryd.prog w = .ok (.value v) w := by
  unfold execOp
  simp only [ho, hs]
  rfl
def addrOk (s : ByteArray) : Bool :=
  match parseL s.data.toList with
  | none => false
  | some j => decide (j.res = []) && decide (normJ j = j)
theorem infoJd : (Tryd.prog.info? 82).map (fun i => (i.zero, i.size, i.bytes)) = some (some (.agg #[.string ⟨#[]⟩, .string ⟨#[]⟩, .string ⟨#[]⟩]), 3, 48) := by kernel_rfl
theorem load_jd {w : World} {b : Nat} {x y z : ByteArray} (h : w.heap[b]? = some (.cells #[.string x, .string y, .string z] 82)) : (Instr.loadAt 82 (.pointer (some ⟨b, 0, none⟩))).run Tryd.prog w = .ok (.agg #[.string x, .string y, .string z]) w := run_load_row infoJd Tryd.underlying82 rfl rfl h
theorem eqJd (x y z x' y' z' : ByteArray) (w : World) : (binOp .eql 82 (.agg #[.string x, .string y, .string z]) (.agg #[.string x', .string y', .string z'])).run Tryd.prog w = .ok (.bool (x.toList == x'.toList && (y.toList == y'.toList && (z.toList == z'.toList)))) w := by
  have u := Tryd.underlying82
  rcases h1 : x.toList == x'.toList <;> rcases h2 : y.toList == y'.toList <;> rcases h3 : z.toList == z'.toList <;> go_simp
theorem eqGuardJd (x y : Operand) (a b : Array Value) (w : World) : (eqGuard .eql 82 x y (.agg a) (.agg b)).run Tryd.prog w = .ok () w := by
  unfold eqGuard
  simp [go_sem]
theorem ex_eqJd {o : Oper} {a : Act} {w : World} {T' : TypeId} {x y : Operand} {l d r l' d' r' : ByteArray} {b : Bool} (ho : o.op = .binOp .eql 82 x y T') (hx : a.eval x = .agg #[.string l, .string d, .string r]) (hy : a.eval y = .agg #[.string l', .string d', .string r']) (hb : (l.toList == l'.toList && (d.toList == d'.toList && (r.toList == r'.toList))) = b) : (execOp a.eval o).run Tryd.prog w = .ok (.value (.bool b)) w := by
  unfold execOp
  simp only [ho, hx, hy]
  simp only [Sem.run_bind, eqGuardJd, eqJd, Result.andThen_ok, Sem.run_pure, hb]
theorem ex_eqS {o : Oper} {a : Act} {w : World} {x y : Operand} {s t : ByteArray} {b : Bool} (ho : o.op = .binOp .eql 9 x y 9) (hx : a.eval x = .string s) (hy : a.eval y = .string t) (hb : (s.toList == t.toList) = b) : (execOp a.eval o).run Tryd.prog w = .ok (.value (.bool b)) w := by
  unfold execOp
  simp only [ho, hx, hy]
  go_simp
theorem ex_eqE {o : Oper} {a : Act} {w : World} {T : TypeId} {x y : Operand} {s t : Int} {b : Bool} (ho : o.op = .binOp .eql 28 x y T) (hx : a.eval x = .int .i64 s) (hy : a.eval y = .int .i64 t) (hb : (s == t) = b) : (execOp a.eval o).run Tryd.prog w = .ok (.value (.bool b)) w := by
  unfold execOp
  simp only [ho, hx, hy]
  go_simp
theorem ex_pkT {o : Oper} {a : Act} {w : World} {x y z : Operand} {v : Value} (ho : o.op = .pick x y z) (hx : a.eval x = .bool true) (hy : a.eval y = v) : (execOp a.eval o).run Tryd.prog w = .ok (.value v) w := by
  unfold execOp
  simp only [ho, hx, hy]
  go_simp
theorem ex_pkF {o : Oper} {a : Act} {w : World} {x y z : Operand} {v : Value} (ho : o.op = .pick x y z) (hx : a.eval x = .bool false) (hz : a.eval z = v) : (execOp a.eval o).run Tryd.prog w = .ok (.value v) w := by
  unfold execOp
  simp only [ho, hx, hz]
  go_simp
theorem ex_fldJ {o : Oper} {a : Act} {w : World} {x : Operand} {b : Nat} (ho : o.op = .fieldAddr 82 x 2) (hx : a.eval x = .pointer (some ⟨b, 0, none⟩)) : (execOp a.eval o).run Tryd.prog w = .ok (.value (.pointer (some ⟨b, 2, none⟩))) w := by
  unfold execOp
  simp only [ho, hx]
  go_simp
theorem load_str {w : World} {b i : Nat} {s : ByteArray} (hc : w.cell? ⟨b, i, none⟩ = some (.string s)) : (Instr.loadAt 9 (.pointer (some ⟨b, i, none⟩))).run Tryd.prog w = .ok (.string s) w := by
  have ha : (isAgg 9).run Tryd.prog w = .ok false w := by
    unfold isAgg
    rw [Sem.run_bind, run_underlying Tryd.underlying9 w]
    simp
  simp [Instr.loadAt, Instr.sureAddr, loadVar, ha, hc, go_sem]
theorem arr_size (l : List UInt8) : (⟨l.toArray⟩ : ByteArray).size = l.length := by simp [ByteArray.size]
set_option maxRecDepth 100000 in
set_option maxHeartbeats 4000000 in
theorem addr_any (s : ByteArray) (w : World) (hs : s.size ≤ 9223372036854775807) (hm : MaxG w) (h1 : 3 < w.heap.size) : Calls Tryd.prog 26 #[.string s] w fun e w' => e = .returned (.bool (addrOk s)) ∧ Below w.heap.size w w' := by
  have HP := hide (parse_any s w hs hm h1)
  obtain ⟨pb, hpb⟩ : ∃ pb, addrOk s = pb := ⟨_, rfl⟩
  rw [hpb]
  have HPB := hide hpb
  clear hpb
  clear hm h1
  go_enter Tryd.func26, Tryd.ntmps26
  go_wp2_with fail
  refine HP.out.mono ?_
  rintro e w1 ⟨h, b1⟩
  have hz1 := b1.size
  rcases h with ⟨j, hj, rfl⟩ | ⟨hj, rfl⟩
  · have hbA : addrOk s = (decide (j.res = []) && decide (normJ j = j)) := by unfold addrOk; rw [hj]
    obtain ⟨lo, hlo'⟩ : ∃ lo, (⟨j.lo.toArray⟩ : ByteArray) = lo := ⟨_, rfl⟩
    obtain ⟨dom, hdo'⟩ : ∃ dom, (⟨j.dom.toArray⟩ : ByteArray) = dom := ⟨_, rfl⟩
    obtain ⟨res, hre'⟩ : ∃ res, (⟨j.res.toArray⟩ : ByteArray) = res := ⟨_, rfl⟩
    have hlo : lo.size ≤ 9223372036854775807 := by
      rw [← hlo', arr_size]
      have h1 := (parse_right hj).2
      have h2 := congrArg List.length h1
      rw [size_list] at h2
      have h3 : j.lo.length ≤ (textJ j).length := by unfold textJ; split <;> simp_all <;> omega
      omega
    have hdo : dom.size ≤ 9223372036854775807 := by
      rw [← hdo', arr_size]
      have h1 := (parse_right hj).2
      have h2 := congrArg List.length h1
      rw [size_list] at h2
      have h3 : j.dom.length ≤ (textJ j).length := by unfold textJ; simp; omega
      omega
    have hjl := jl_ext hlo' hdo' hre'
    have hJ : j.res = res.data.toList := by rw [hjl]; rfl
    unfold jv
    rw [hlo', hdo', hre']
    rw [hjl] at hbA
    have HPA := hide (HPB.out.symm.trans hbA)
    have HW0 := hide (b1.alloc hz1 (.cells #[.string lo, .string dom, .string res] 82))
    have f0 := World.alloc_heap_new w1 (.cells #[.string lo, .string dom, .string res] 82)
    have hqW : w1.heap.size < (w1.alloc (.cells #[.string lo, .string dom, .string res] 82)).heap.size := by simp
    have HJ := hide (And.intro hlo hdo)
    clear hj hbA hlo' hdo' hre' hJ hjl b1 hz1 HP hlo hdo
    go_wp2_with fail
    obtain ⟨W, hW⟩ : ∃ W, w1.alloc (.cells #[.string lo, .string dom, .string res] 82) = W := ⟨_, rfl⟩
    obtain ⟨q, hq⟩ : ∃ q, w1.heap.size = q := ⟨_, rfl⟩
    rw [hW] at f0 hqW HW0 ⊢
    rw [hq] at f0 hqW ⊢
    have HW := HW0
    clear HW0 hW hq
    obtain ⟨hlo, hdo⟩ := HJ.out
    clear HJ
    by_cases hr : res = ⟨#[]⟩
    · have hrs : (res.toList == (⟨#[]⟩ : ByteArray).toList) = true := by rw [hr]; simp
      obtain ⟨rb, hrb⟩ : ∃ rb, (lo.toList == (⟨(lo.data.toList.map lowB).toArray⟩ : ByteArray).toList && (dom.toList == (⟨(dom.data.toList.map lowB).toArray⟩ : ByteArray).toList && (res.toList == res.toList))) = rb := ⟨_, rfl⟩
      have hfin : (decide ((jl lo dom res).res = []) && decide (normJ (jl lo dom res) = jl lo dom res)) = rb := by
        rw [← hrb]
        have e1 : decide ((jl lo dom res).res = []) = true := by rw [hr]; rfl
        rw [e1, Bool.true_and]
        rw [Bool.eq_iff_iff]
        simp only [decide_eq_true_eq, Bool.and_eq_true, beq_iff_eq, and_true]
        simp only [jl, normJ, JL.mk.injEq, and_true, ByteArray.toList_eq]
        exact ⟨fun h => ⟨h.1.symm, h.2.symm⟩, fun h => ⟨h.1.symm, h.2.symm⟩⟩
      have hpr := HPA.out.trans hfin
      have HPR := hide hpr
      clear hfin hr hpr
      obtain ⟨V0, hV0⟩ : ∃ V0, W.drew = V0 := ⟨_, rfl⟩
      have B0 : Below W.heap.size W V0 := by rw [← hV0]; exact (Below.refl _ W).drew
      have hqV : q < V0.heap.size := Nat.lt_of_lt_of_le hqW B0.size
      replace f0 := (B0.block q hqW).trans f0
      refine region_rel (S := fun V => Below V0.heap.size V0 V) (fun a Wz => ∃ xx : Nat → Value, (Below W.heap.size W Wz) ∧ a = { tmps := #[.string s, undef, .bool rb, .pointer (some ⟨q, 0, none⟩), .int .i64 0, xx 5, xx 6, xx 7, xx 8, xx 9, xx 10, xx 11, xx 12, xx 13, xx 14, xx 15, xx 16, xx 17, xx 18, xx 19, xx 20, xx 21, xx 22], defers := [] }) (by kernel_rfl) ?any ?fin
      case any =>
        rw [hV0]
        clear hV0
        have S0 : Below V0.heap.size V0 V0 := Below.refl _ _
        refine anyH_take (i := 0) (v := .int .i64 0) rfl (some 10) rfl (by kernel_rfl) (by kernel_rfl) (by kernel_rfl) (fun _ _ _ h => by cases h.1) (by kernel_rfl) (fun w0 hw0 => by first | rfl | kernel_rfl) S0 ?_
        simp only [Act.put, List.setIfInBounds_toArray, List.set_cons_zero, List.set_cons_succ]
        refine anyH_take (i := 1) (v := .bool true) rfl (some 11) rfl (by kernel_rfl) (by kernel_rfl) (by kernel_rfl) (fun _ _ _ h => by cases h.1) (by kernel_rfl) (fun _ _ => ex_eqE rfl rfl rfl (by rfl)) S0 ?_
        simp only [Act.put, List.setIfInBounds_toArray, List.set_cons_zero, List.set_cons_succ]
        refine anyH_take (i := 2) (v := .bool true) rfl (some 12) rfl (by kernel_rfl) (by kernel_rfl) (by kernel_rfl) (fun _ _ _ h => by cases h.1) (by kernel_rfl) (fun w0 hw0 => by first | rfl | kernel_rfl) S0 ?_
        simp only [Act.put, List.setIfInBounds_toArray, List.set_cons_zero, List.set_cons_succ]
        refine anyH_take (i := 3) (v := .pointer (some ⟨q, 2, none⟩)) rfl (some 13) rfl (by kernel_rfl) (by kernel_rfl) (by kernel_rfl) (fun _ _ _ h => by cases h.1) (by kernel_rfl) (fun _ _ => ex_fldJ rfl rfl) S0 ?_
        simp only [Act.put, List.setIfInBounds_toArray, List.set_cons_zero, List.set_cons_succ]
        refine anyH_take (i := 4) (v := .string res) rfl (some 14) rfl (by kernel_rfl) (by kernel_rfl) (by kernel_rfl) (fun _ _ _ h => by cases h.1) (by kernel_rfl) (fun w0 hw0 => ex_load rfl rfl (load_str ((hw0.cell (p := ⟨q, _, none⟩) hqV).trans (cells3 f0).2.2.1))) S0 ?_
        simp only [Act.put, List.setIfInBounds_toArray, List.set_cons_zero, List.set_cons_succ]
        refine anyH_take (i := 5) (v := .bool true) rfl (some 15) rfl (by kernel_rfl) (by kernel_rfl) (by kernel_rfl) (fun _ _ _ h => by cases h.1) (by kernel_rfl) (fun _ _ => ex_eqS rfl rfl rfl hrs) S0 ?_
        simp only [Act.put, List.setIfInBounds_toArray, List.set_cons_zero, List.set_cons_succ]
        refine anyH_take (i := 6) (v := .bool true) rfl (some 16) rfl (by kernel_rfl) (by kernel_rfl) (by kernel_rfl) (fun _ _ _ h => by cases h.1) (by kernel_rfl) (fun _ _ => ex_pkT rfl rfl rfl) S0 ?_
        simp only [Act.put, List.setIfInBounds_toArray, List.set_cons_zero, List.set_cons_succ]
        refine anyH_take (i := 7) (v := .bool true) rfl (some 17) rfl (by kernel_rfl) (by kernel_rfl) (by kernel_rfl) (fun _ _ _ h => by cases h.1) (by kernel_rfl) (fun w0 hw0 => by first | rfl | kernel_rfl) S0 ?_
        simp only [Act.put, List.setIfInBounds_toArray, List.set_cons_zero, List.set_cons_succ]
        refine anyH_take (i := 8) (v := .agg #[.string lo, .string dom, .string res]) rfl (some 18) rfl (by kernel_rfl) (by kernel_rfl) (by kernel_rfl) (fun _ _ _ h => by cases h.1) (by kernel_rfl) (fun w0 hw0 => ex_load rfl rfl (load_jd ((hw0.block q hqV).trans f0))) S0 ?_
        simp only [Act.put, List.setIfInBounds_toArray, List.set_cons_zero, List.set_cons_succ]
        refine anyH_take (i := 9) (v := .agg #[.string lo, .string dom, .string res]) rfl (some 19) rfl (by kernel_rfl) (by kernel_rfl) (by kernel_rfl) (fun _ _ _ h => by cases h.1) (by kernel_rfl) (fun w0 hw0 => ex_load rfl rfl (load_jd ((hw0.block q hqV).trans f0))) S0 ?_
        simp only [Act.put, List.setIfInBounds_toArray, List.set_cons_zero, List.set_cons_succ]
        refine anyH_one (i := 10) (by kernel_rfl) ?_
        refine op_call rfl (some 20) rfl (by kernel_rfl) #[.agg #[.string lo, .string dom, .string res]] rfl (by simp [Act.eval]) (fun _ _ => rfl) (normal_any lo dom res V0 hlo hdo) ?_
        rintro e V1 ⟨rfl, c1_⟩
        have b1 : Below V0.heap.size V0 V1 := c1_
        refine ⟨_, rfl, S0.trans (b1.mono S0.size), ?_⟩
        simp only [Act.put, List.setIfInBounds_toArray, List.set_cons_zero, List.set_cons_succ]
        refine anyH_more (fun V => Below V1.heap.size V1 V) (fun V hV => S0.trans ((b1.trans (hV.mono b1.size)).mono S0.size)) ?_
        have S1 : Below V1.heap.size V1 V1 := Below.refl _ _
        have B1 : Below W.heap.size W V1 := B0.trans (b1.mono B0.size)
        refine anyH_take (i := 11) (v := .bool rb) rfl (some 21) rfl (by kernel_rfl) (by kernel_rfl) (by kernel_rfl) (fun _ _ _ h => by cases h.1) (by kernel_rfl) (fun _ _ => ex_eqJd rfl rfl rfl hrb) S1 ?_
        simp only [Act.put, List.setIfInBounds_toArray, List.set_cons_zero, List.set_cons_succ]
        refine anyH_take (i := 12) (v := .bool rb) rfl (some 22) rfl (by kernel_rfl) (by kernel_rfl) (by kernel_rfl) (fun _ _ _ h => by cases h.1) (by kernel_rfl) (fun _ _ => ex_pkT rfl rfl rfl) S1 ?_
        simp only [Act.put, List.setIfInBounds_toArray, List.set_cons_zero, List.set_cons_succ]
        refine anyH_val (i := 13) (by kernel_rfl) rfl (some 2) rfl (by kernel_rfl) (ex_anyv rfl rfl) S1 ?_
        simp only [Act.put, List.setIfInBounds_toArray, List.set_cons_zero, List.set_cons_succ]
        exact wpAnyH_done (by kernel_rfl) ⟨rfl, fill (B1) (by kernel_rfl)⟩ _
      case fin =>
        rintro a W2 ⟨xx, hB, rfl⟩
        have HB := hide (HW.out.trans (hB.mono HW.out.size))
        clear hB B0 hqV hV0 f0
        go_wp2_with fail
        go_ret
        exact ⟨by rw [HPR.out]; rfl, HB.out⟩
    · have hrs : (res.toList == (⟨#[]⟩ : ByteArray).toList) = false := str_ne hr
      have hfin : (decide ((jl lo dom res).res = []) && decide (normJ (jl lo dom res) = jl lo dom res)) = false := by
        have e1 : decide ((jl lo dom res).res = []) = false := decide_eq_false fun h => hr (by
          obtain ⟨⟨l⟩⟩ := res
          have h2 : l = [] := h
          rw [h2])
        rw [e1, Bool.false_and]
      have hpr := HPA.out.trans hfin
      have HPR := hide hpr
      clear hfin hr hpr
      obtain ⟨V0, hV0⟩ : ∃ V0, W.drew = V0 := ⟨_, rfl⟩
      have B0 : Below W.heap.size W V0 := by rw [← hV0]; exact (Below.refl _ W).drew
      have hqV : q < V0.heap.size := Nat.lt_of_lt_of_le hqW B0.size
      replace f0 := (B0.block q hqW).trans f0
      refine region_rel (S := fun V => Below V0.heap.size V0 V) (fun a Wz => ∃ xx : Nat → Value, (Below W.heap.size W Wz) ∧ a = { tmps := #[.string s, undef, .bool false, .pointer (some ⟨q, 0, none⟩), .int .i64 0, xx 5, xx 6, xx 7, xx 8, xx 9, xx 10, xx 11, xx 12, xx 13, xx 14, xx 15, xx 16, xx 17, xx 18, xx 19, xx 20, xx 21, xx 22], defers := [] }) (by kernel_rfl) ?any ?fin
      case any =>
        rw [hV0]
        clear hV0
        have S0 : Below V0.heap.size V0 V0 := Below.refl _ _
        refine anyH_take (i := 0) (v := .int .i64 0) rfl (some 10) rfl (by kernel_rfl) (by kernel_rfl) (by kernel_rfl) (fun _ _ _ h => by cases h.1) (by kernel_rfl) (fun w0 hw0 => by first | rfl | kernel_rfl) S0 ?_
        simp only [Act.put, List.setIfInBounds_toArray, List.set_cons_zero, List.set_cons_succ]
        refine anyH_take (i := 1) (v := .bool true) rfl (some 11) rfl (by kernel_rfl) (by kernel_rfl) (by kernel_rfl) (fun _ _ _ h => by cases h.1) (by kernel_rfl) (fun _ _ => ex_eqE rfl rfl rfl (by rfl)) S0 ?_
        simp only [Act.put, List.setIfInBounds_toArray, List.set_cons_zero, List.set_cons_succ]
        refine anyH_take (i := 2) (v := .bool true) rfl (some 12) rfl (by kernel_rfl) (by kernel_rfl) (by kernel_rfl) (fun _ _ _ h => by cases h.1) (by kernel_rfl) (fun w0 hw0 => by first | rfl | kernel_rfl) S0 ?_
        simp only [Act.put, List.setIfInBounds_toArray, List.set_cons_zero, List.set_cons_succ]
        refine anyH_take (i := 3) (v := .pointer (some ⟨q, 2, none⟩)) rfl (some 13) rfl (by kernel_rfl) (by kernel_rfl) (by kernel_rfl) (fun _ _ _ h => by cases h.1) (by kernel_rfl) (fun _ _ => ex_fldJ rfl rfl) S0 ?_
        simp only [Act.put, List.setIfInBounds_toArray, List.set_cons_zero, List.set_cons_succ]
        refine anyH_take (i := 4) (v := .string res) rfl (some 14) rfl (by kernel_rfl) (by kernel_rfl) (by kernel_rfl) (fun _ _ _ h => by cases h.1) (by kernel_rfl) (fun w0 hw0 => ex_load rfl rfl (load_str ((hw0.cell (p := ⟨q, _, none⟩) hqV).trans (cells3 f0).2.2.1))) S0 ?_
        simp only [Act.put, List.setIfInBounds_toArray, List.set_cons_zero, List.set_cons_succ]
        refine anyH_take (i := 5) (v := .bool false) rfl (some 15) rfl (by kernel_rfl) (by kernel_rfl) (by kernel_rfl) (fun _ _ _ h => by cases h.1) (by kernel_rfl) (fun _ _ => ex_eqS rfl rfl rfl hrs) S0 ?_
        simp only [Act.put, List.setIfInBounds_toArray, List.set_cons_zero, List.set_cons_succ]
        refine anyH_take (i := 6) (v := .bool false) rfl (some 16) rfl (by kernel_rfl) (by kernel_rfl) (by kernel_rfl) (fun _ _ _ h => by cases h.1) (by kernel_rfl) (fun _ _ => ex_pkT rfl rfl rfl) S0 ?_
        simp only [Act.put, List.setIfInBounds_toArray, List.set_cons_zero, List.set_cons_succ]
        refine anyH_take (i := 7) (v := .bool false) rfl (some 17) rfl (by kernel_rfl) (by kernel_rfl) (by kernel_rfl) (fun _ _ _ h => by cases h.1) (by kernel_rfl) (fun w0 hw0 => by first | rfl | kernel_rfl) S0 ?_
        simp only [Act.put, List.setIfInBounds_toArray, List.set_cons_zero, List.set_cons_succ]
        refine anyH_off (i := 8) rfl (some 18) rfl (by kernel_rfl) (by kernel_rfl) (by kernel_rfl) (fun _ _ _ h => by cases h.1) (by kernel_rfl) S0 ?_
        simp only [Act.put, List.setIfInBounds_toArray, List.set_cons_zero, List.set_cons_succ]
        refine anyH_off (i := 9) rfl (some 19) rfl (by kernel_rfl) (by kernel_rfl) (by kernel_rfl) (fun _ _ _ h => by cases h.1) (by kernel_rfl) S0 ?_
        simp only [Act.put, List.setIfInBounds_toArray, List.set_cons_zero, List.set_cons_succ]
        refine anyH_off (i := 10) rfl (some 20) rfl (by kernel_rfl) (by kernel_rfl) (by kernel_rfl) (fun _ _ _ h => by cases h.1) (by kernel_rfl) S0 ?_
        simp only [Act.put, List.setIfInBounds_toArray, List.set_cons_zero, List.set_cons_succ]
        refine anyH_off (i := 11) rfl (some 21) rfl (by kernel_rfl) (by kernel_rfl) (by kernel_rfl) (fun _ _ _ h => by cases h.1) (by kernel_rfl) S0 ?_
        simp only [Act.put, List.setIfInBounds_toArray, List.set_cons_zero, List.set_cons_succ]
        refine anyH_take (i := 12) (v := .bool false) rfl (some 22) rfl (by kernel_rfl) (by kernel_rfl) (by kernel_rfl) (fun _ _ _ h => by cases h.1) (by kernel_rfl) (fun w0 hw0 => ex_pkF rfl rfl rfl) S0 ?_
        simp only [Act.put, List.setIfInBounds_toArray, List.set_cons_zero, List.set_cons_succ]
        refine anyH_val (i := 13) (by kernel_rfl) rfl (some 2) rfl (by kernel_rfl) (ex_anyv rfl rfl) S0 ?_
        simp only [Act.put, List.setIfInBounds_toArray, List.set_cons_zero, List.set_cons_succ]
        exact wpAnyH_done (by kernel_rfl) ⟨rfl, fill (B0) (by kernel_rfl)⟩ _
      case fin =>
        rintro a W2 ⟨xx, hB, rfl⟩
        have HB := hide (HW.out.trans (hB.mono HW.out.size))
        clear hB B0 hqV hV0 f0
        go_wp2_with fail
        go_ret
        exact ⟨by rw [HPR.out]; rfl, HB.out⟩
  · have hbA : addrOk s = false := by unfold addrOk; rw [hj]
    have HPR := hide (HPB.out.symm.trans hbA)
    have HW0 := hide (b1.alloc hz1 (.cells #[.string ⟨#[]⟩, .string ⟨#[]⟩, .string ⟨#[]⟩] 82))
    have f0 := World.alloc_heap_new w1 (.cells #[.string ⟨#[]⟩, .string ⟨#[]⟩, .string ⟨#[]⟩] 82)
    have hqW : w1.heap.size < (w1.alloc (.cells #[.string ⟨#[]⟩, .string ⟨#[]⟩, .string ⟨#[]⟩] 82)).heap.size := by simp
    have ej : jv noJ = .agg #[.string ⟨#[]⟩, .string ⟨#[]⟩, .string ⟨#[]⟩] := rfl
    rw [ej]
    clear hj hbA b1 hz1 HP ej
    go_wp2_with fail
    obtain ⟨W, hW⟩ : ∃ W, w1.alloc (.cells #[.string ⟨#[]⟩, .string ⟨#[]⟩, .string ⟨#[]⟩] 82) = W := ⟨_, rfl⟩
    obtain ⟨q, hq⟩ : ∃ q, w1.heap.size = q := ⟨_, rfl⟩
    rw [hW] at f0 hqW HW0 ⊢
    rw [hq] at f0 hqW ⊢
    have HW := HW0
    clear HW0 hW hq
    obtain ⟨V0, hV0⟩ : ∃ V0, W.drew = V0 := ⟨_, rfl⟩
    have B0 : Below W.heap.size W V0 := by rw [← hV0]; exact (Below.refl _ W).drew
    have hqV : q < V0.heap.size := Nat.lt_of_lt_of_le hqW B0.size
    replace f0 := (B0.block q hqW).trans f0
    refine region_rel (S := fun V => Below V0.heap.size V0 V) (fun a Wz => ∃ xx : Nat → Value, (Below W.heap.size W Wz) ∧ a = { tmps := #[.string s, undef, .bool false, .pointer (some ⟨q, 0, none⟩), .int .i64 3, xx 5, xx 6, xx 7, xx 8, xx 9, xx 10, xx 11, xx 12, xx 13, xx 14, xx 15, xx 16, xx 17, xx 18, xx 19, xx 20, xx 21, xx 22], defers := [] }) (by kernel_rfl) ?any ?fin
    case any =>
      rw [hV0]
      clear hV0
      have S0 : Below V0.heap.size V0 V0 := Below.refl _ _
      refine anyH_take (i := 0) (v := .int .i64 3) rfl (some 10) rfl (by kernel_rfl) (by kernel_rfl) (by kernel_rfl) (fun _ _ _ h => by cases h.1) (by kernel_rfl) (fun w0 hw0 => by first | rfl | kernel_rfl) S0 ?_
      simp only [Act.put, List.setIfInBounds_toArray, List.set_cons_zero, List.set_cons_succ]
      refine anyH_take (i := 1) (v := .bool false) rfl (some 11) rfl (by kernel_rfl) (by kernel_rfl) (by kernel_rfl) (fun _ _ _ h => by cases h.1) (by kernel_rfl) (fun _ _ => ex_eqE rfl rfl rfl (by rfl)) S0 ?_
      simp only [Act.put, List.setIfInBounds_toArray, List.set_cons_zero, List.set_cons_succ]
      refine anyH_take (i := 2) (v := .bool false) rfl (some 12) rfl (by kernel_rfl) (by kernel_rfl) (by kernel_rfl) (fun _ _ _ h => by cases h.1) (by kernel_rfl) (fun w0 hw0 => by first | rfl | kernel_rfl) S0 ?_
      simp only [Act.put, List.setIfInBounds_toArray, List.set_cons_zero, List.set_cons_succ]
      refine anyH_off (i := 3) rfl (some 13) rfl (by kernel_rfl) (by kernel_rfl) (by kernel_rfl) (fun _ _ _ h => by cases h.1) (by kernel_rfl) S0 ?_
      simp only [Act.put, List.setIfInBounds_toArray, List.set_cons_zero, List.set_cons_succ]
      refine anyH_off (i := 4) rfl (some 14) rfl (by kernel_rfl) (by kernel_rfl) (by kernel_rfl) (fun _ _ _ h => by cases h.1) (by kernel_rfl) S0 ?_
      simp only [Act.put, List.setIfInBounds_toArray, List.set_cons_zero, List.set_cons_succ]
      refine anyH_off (i := 5) rfl (some 15) rfl (by kernel_rfl) (by kernel_rfl) (by kernel_rfl) (fun _ _ _ h => by cases h.1) (by kernel_rfl) S0 ?_
      simp only [Act.put, List.setIfInBounds_toArray, List.set_cons_zero, List.set_cons_succ]
      refine anyH_take (i := 6) (v := .bool false) rfl (some 16) rfl (by kernel_rfl) (by kernel_rfl) (by kernel_rfl) (fun _ _ _ h => by cases h.1) (by kernel_rfl) (fun w0 hw0 => ex_pkF rfl rfl rfl) S0 ?_
      simp only [Act.put, List.setIfInBounds_toArray, List.set_cons_zero, List.set_cons_succ]
      refine anyH_take (i := 7) (v := .bool false) rfl (some 17) rfl (by kernel_rfl) (by kernel_rfl) (by kernel_rfl) (fun _ _ _ h => by cases h.1) (by kernel_rfl) (fun w0 hw0 => by first | rfl | kernel_rfl) S0 ?_
      simp only [Act.put, List.setIfInBounds_toArray, List.set_cons_zero, List.set_cons_succ]
      refine anyH_off (i := 8) rfl (some 18) rfl (by kernel_rfl) (by kernel_rfl) (by kernel_rfl) (fun _ _ _ h => by cases h.1) (by kernel_rfl) S0 ?_
      simp only [Act.put, List.setIfInBounds_toArray, List.set_cons_zero, List.set_cons_succ]
      refine anyH_off (i := 9) rfl (some 19) rfl (by kernel_rfl) (by kernel_rfl) (by kernel_rfl) (fun _ _ _ h => by cases h.1) (by kernel_rfl) S0 ?_
      simp only [Act.put, List.setIfInBounds_toArray, List.set_cons_zero, List.set_cons_succ]
      refine anyH_off (i := 10) rfl (some 20) rfl (by kernel_rfl) (by kernel_rfl) (by kernel_rfl) (fun _ _ _ h => by cases h.1) (by kernel_rfl) S0 ?_
      simp only [Act.put, List.setIfInBounds_toArray, List.set_cons_zero, List.set_cons_succ]
      refine anyH_off (i := 11) rfl (some 21) rfl (by kernel_rfl) (by kernel_rfl) (by kernel_rfl) (fun _ _ _ h => by cases h.1) (by kernel_rfl) S0 ?_
      simp only [Act.put, List.setIfInBounds_toArray, List.set_cons_zero, List.set_cons_succ]
      refine anyH_take (i := 12) (v := .bool false) rfl (some 22) rfl (by kernel_rfl) (by kernel_rfl) (by kernel_rfl) (fun _ _ _ h => by cases h.1) (by kernel_rfl) (fun w0 hw0 => ex_pkF rfl rfl rfl) S0 ?_
      simp only [Act.put, List.setIfInBounds_toArray, List.set_cons_zero, List.set_cons_succ]
      refine anyH_val (i := 13) (by kernel_rfl) rfl (some 2) rfl (by kernel_rfl) (ex_anyv rfl rfl) S0 ?_
      simp only [Act.put, List.setIfInBounds_toArray, List.set_cons_zero, List.set_cons_succ]
      exact wpAnyH_done (by kernel_rfl) ⟨rfl, fill (B0) (by kernel_rfl)⟩ _
    case fin =>
      rintro a W2 ⟨xx, hB, rfl⟩
      have HB := hide (HW.out.trans (hB.mono HW.out.size))
      clear hB B0 hqV hV0 f0
      go_wp2_with fail
      go_ret
      exact ⟨by rw [HPR.out]; rfl, HB.out⟩
end Go.Proofs.YtimhkgpjfppkmaaDoor.Jd
