/- The document's Result and Error. -/
import Derived.Test.YtpknifioflagaaaDoorXT
import Derived.Test.YtpknifioflagaaaDoorSt20
namespace Go.Proofs.YtpknifioflagaaaDoor
open Go.RowKit Go.Shelf

theorem ex_field0 {o : Oper} {a : Act} {w : World} {x : Operand} {b : Nat} (ho : o.op = .fieldAddr 25 x 0) (hx : a.eval x = .pointer (some ⟨b, 0, none⟩)) : (execOp a.eval o).run Tryd.prog w = .ok (.value (.pointer (some ⟨b, 0, none⟩))) w := by
  unfold execOp
  simp only [ho, hx]
  go_simp
theorem ex_lenT {o : Oper} {a : Act} {w : World} {x : Operand} {p : Option Addr} {m cap : Nat} (ho : o.op = .call { callee := .builtin .len, args := #[x], argTypes := #[23] }) (hx : a.eval x = .slice p m cap) : (execOp a.eval o).run Tryd.prog w = .ok (.value (.int .i64 m)) w := by
  have hr : (Builtin.len_ #[23] o.type #[.slice p m cap]).run Tryd.prog w = .ok (.int .i64 m) w := by go_simp
  simp [execOp, ho, resolve, invoke, builtin, hx, hr, Result.andThen]
theorem ex_sub1 {o : Oper} {a : Act} {w : World} {x : Operand} {z : Int} (ho : o.op = .binOp .sub 3 x (.const (.int .i64 1)) 3) (hx : a.eval x = .int .i64 z) (hw : IntKind.i64.wrap (z - 1) = z - 1) : (execOp a.eval o).run Tryd.prog w = .ok (.value (.int .i64 (z - 1))) w := by
  unfold execOp
  simp only [ho, hx]
  go_simp
theorem run_build2 (a b : ByteArray) (w : World) : (Instr.build 58 #[(0, .string a), (1, .string b)]).run Tryd.prog w = .ok (.agg #[.string a, .string b]) w := by kernel_rfl
theorem run_one1 (s t : ByteArray) (w : World) : (Instr.buildSlice 54 1 #[(0, .agg #[.string s, .string t])]).run Tryd.prog w = .ok (.slice (some ⟨w.heap.size, 0, none⟩) 1 1) (w.alloc (.cells #[.string s, .string t] 58)) := by kernel_rfl
theorem ex_slice1 {o : Oper} {a : Act} {w w' : World} {T : TypeId} {n : Nat} {ps : Array (Nat × Operand)} {v : Value} {us : Array (Nat × Value)} (ho : o.op = .buildSlice T n ps) (hp : (ps.map fun x => (x.1, a.eval x.2)) = us) (hr : (Instr.buildSlice T n us).run Tryd.prog w = .ok v w') : (execOp a.eval o).run Tryd.prog w = .ok (.value v) w' := by
  unfold execOp
  simp only [ho]
  rw [show (ps.map fun (i, x) => (i, a.eval x)) = us from hp]
  simp [hr]
set_option maxRecDepth 100000 in
set_option maxHeartbeats 4000000 in
theorem rresult_any (k : Int) (ty fr tt id : ByteArray) (pa : Option Addr) (pn pc : Nat) (ao : Option Addr) (cap : Nat) (ts : List Tok) (av : Nat → Option Addr × Nat) (w : World) (hT : TokMem w.heap.size w ao ts av) (hav : ∀ i t, ts[i]? = some t → (av i).1 = none → (av i).2 = 0) (hs : ts.length ≤ 1000) :
    Calls Tryd.prog 23 #[.agg #[.int .u8 k, .string ty, .string fr, .string tt, .string id, .slice pa pn pc], .slice ao ts.length cap] w fun e w' => ∃ ga gc av', e = .returned (.agg #[.int .u8 1, .string ty_result, .string tt, .string fr, .string id, .slice ga ts.length gc]) ∧ TokMem w'.heap.size w' ga ts av' ∧ Below w.heap.size w w' := by
  obtain ⟨Wa, hWa, aa, ba, za⟩ := newV w 25 #[.int .u8 k, .string ty, .string fr, .string tt, .string id, .slice pa pn pc]
  obtain ⟨Wb, hWb, ab, bb, zb⟩ := newV Wa 25 #[.int .u8 0, .string ⟨#[]⟩, .string ⟨#[]⟩, .string ⟨#[]⟩, .string ⟨#[]⟩, .slice none 0 0]
  rw [za] at ab
  have aB := (bb.block w.heap.size (by omega)).trans aa
  have bB : Below w.heap.size w Wb := ba.trans (bb.mono (by omega))
  have hel := refElement_row ⟨#[120]⟩ none 0 [] ao cap ts av Wb (by decide) (attrMem_nil _ _) (fun _ => rfl) ((hT.below bB).raise bB.size) hav hs
  rw [show ([] : List (ByteArray × ByteArray)).length = 0 from rfl] at hel
  obtain ⟨m0, hm0⟩ : ∃ m0, ts.length = m0 := ⟨_, rfl⟩
  rw [hm0] at hel hs
  have HEL := hide hel
  have H0 := hide (And.intro aB (And.intro ab (And.intro bB hm0)))
  rw [hm0]
  clear aa ba ab bb aB bB hT hm0 hav hel
  go_enter Tryd.func23, Tryd.ntmps23
  go_wp2_with (go_at_call 40; refine HEL.out.mono ?_; rintro e w5 ⟨v5, l5, rfl, e5, r5, b5'⟩; refine stopHere ?_)
  unfold Hid
  obtain ⟨aB, ab, bB, hm0⟩ := H0.out
  obtain ⟨m, hm⟩ : ∃ m, m0 + 2 = m := ⟨_, rfl⟩
  have hl5 : l5.length = m := by
    have h := congrArg List.length e5
    rw [List.length_map] at h
    rw [h]
    unfold elemT
    simp
    omega
  have h2 : 2 ≤ m := by omega
  have hn5' : m - 2 = m0 := by omega
  have hmw : IntKind.i64.wrap ((m : Int) - 1) = (m : Int) - 1 := by rw [IntKind.wrap_i64]; omega
  obtain ⟨ga5, gc5, rfl⟩ := own_shape r5.1
  have hcap5 := own_cap r5.1
  obtain ⟨ao5, cap5, q5, hT5⟩ := tokMem_own r5 (by omega)
  cases q5
  rw [e5] at hT5
  obtain ⟨_, _, _, _, _, b5, o5, hao5, _⟩ := hT5.2 0 _ (elem_first _ _ _)
  subst hao5
  rw [hl5] at hcap5 r5 ⊢
  obtain ⟨oo, hoo⟩ : ∃ oo, (if m = 2 then o5 else o5 + 4) = oo := ⟨_, rfl⟩
  obtain ⟨n5, hn5⟩ : ∃ n5, m - 2 = n5 := ⟨_, rfl⟩
  have hmemOf : ∀ U, ElRow Wb.heap.size U (.slice (some ⟨b5, o5, none⟩) m gc5) l5 → TokMem U.heap.size U (some ⟨b5, oo, none⟩) ts (fun k => avOf l5 (k + 1)) := fun U hU => by
    have hU' := hU
    rw [← hl5] at hU'
    obtain ⟨ao6, cap6, q6, hT6⟩ := tokMem_own hU' (by omega)
    cases q6
    rw [e5] at hT6
    have h3 := hT6.mid3 (m := m) (by rw [← e5, List.length_map]; exact hl5) h2
    rw [mid_elem, hoo] at h3
    exact h3
  have hvz : w.heap.size + 1 < Wb.heap.size := hp_lt ab
  have g5 := (b5'.block _ (hp_lt aB)).trans aB
  have g5b := (b5'.block _ (hp_lt ab)).trans ab
  have B5 : Below w.heap.size w w5 := bB.trans (b5'.mono bB.size)
  have H5 := hide (And.intro g5 (And.intro g5b (And.intro B5 (And.intro r5 (And.intro hmemOf (And.intro hmw (And.intro hoo (And.intro hn5 (And.intro hcap5 hn5')))))))))
  clear aB ab bB hm0 e5 r5 b5' hT5 hmw hoo hn5 hn5' hcap5 hmemOf g5 g5b B5 hl5 hm HEL
  go_wp2_with fail
  obtain ⟨V0, hV0⟩ : ∃ V0, w5.drew = V0 := ⟨_, rfl⟩
  obtain ⟨g5, g5b, B5, r5', hmemOf, hmw, hoo, hn5, hcap5, hn5'⟩ := H5.out
  have BV : Below w.heap.size w V0 := by rw [← hV0]; exact B5.drew
  have fa : V0.heap[w.heap.size]? = some (.cells #[.int .u8 k, .string ty, .string fr, .string tt, .string id, .slice pa pn pc] 25) := by rw [← hV0]; exact g5
  have fb : V0.heap[w.heap.size + 1]? = some (.cells #[.int .u8 0, .string ⟨#[]⟩, .string ⟨#[]⟩, .string ⟨#[]⟩, .string ⟨#[]⟩, .slice none 0 0] 25) := by rw [← hV0]; exact g5b
  have r5 : ElRow Wb.heap.size V0 (.slice (some ⟨b5, o5, none⟩) m gc5) l5 := by rw [← hV0]; exact r5'.below (Below.refl _ _).drew
  refine region_rel (S := fun W => W.heap[w.heap.size]? = some (.cells #[.int .u8 k, .string ty, .string fr, .string tt, .string id, .slice pa pn pc] 25) ∧ True) (fun a W => ∃ (x0 x1 x2 x3 x5 x6 x7 x8 x9 x10 x11 x12 x13 x14 x15 x16 x17 x18 x19 x20 x21 x22 : Value), W.heap[w.heap.size + 1]? = some (.cells #[.int .u8 1, .string ⟨#[114, 101, 115, 117, 108, 116]⟩, .string tt, .string fr, .string id, .slice (some ⟨b5, oo, none⟩) n5 n5] 25) ∧ TokMem W.heap.size W (some ⟨b5, oo, none⟩) ts (fun k => avOf l5 (k + 1)) ∧ Below w.heap.size w W ∧ a = { tmps := #[x0, x1, x2, x3, .pointer (some ⟨w.heap.size + 1, 0, none⟩), x5, x6, x7, x8, x9, x10, x11, x12, x13, x14, x15, x16, x17, x18, x19, x20, x21, x22], defers := [] }) (by kernel_rfl) ?reg ?beh
  case reg =>
    rw [hV0]
    have S0 : V0.heap[w.heap.size]? = some (.cells #[.int .u8 k, .string ty, .string fr, .string tt, .string id, .slice pa pn pc] 25) ∧ True := ⟨fa, trivial⟩
    refine anyH_take (i := 0) (v := .pointer (some ⟨w.heap.size, 3, none⟩)) rfl (some 8) rfl (by kernel_rfl) (by kernel_rfl) (by kernel_rfl) (fun _ _ _ h => by cases h.1) rfl (fun w0 hw0 => ex_field3 rfl rfl) S0 ?_
    simp only [Act.put, List.setIfInBounds_toArray, List.set_cons_zero, List.set_cons_succ]
    refine anyH_take (i := 1) (v := .string tt) rfl (some 9) rfl (by kernel_rfl) (by kernel_rfl) (by kernel_rfl) (fun _ _ _ h => by cases h.1) rfl (fun w0 hw0 => ex_load rfl rfl (run_load_cell Tryd.underlying9 rfl (cells6 hw0.1).2.2.2.1)) S0 ?_
    simp only [Act.put, List.setIfInBounds_toArray, List.set_cons_zero, List.set_cons_succ]
    refine anyH_take (i := 2) (v := .pointer (some ⟨w.heap.size, 2, none⟩)) rfl (some 10) rfl (by kernel_rfl) (by kernel_rfl) (by kernel_rfl) (fun _ _ _ h => by cases h.1) rfl (fun w0 hw0 => ex_field2 rfl rfl) S0 ?_
    simp only [Act.put, List.setIfInBounds_toArray, List.set_cons_zero, List.set_cons_succ]
    refine anyH_take (i := 3) (v := .string fr) rfl (some 11) rfl (by kernel_rfl) (by kernel_rfl) (by kernel_rfl) (fun _ _ _ h => by cases h.1) rfl (fun w0 hw0 => ex_load rfl rfl (run_load_cell Tryd.underlying9 rfl (cells6 hw0.1).2.2.1)) S0 ?_
    simp only [Act.put, List.setIfInBounds_toArray, List.set_cons_zero, List.set_cons_succ]
    refine anyH_take (i := 4) (v := .pointer (some ⟨w.heap.size, 4, none⟩)) rfl (some 12) rfl (by kernel_rfl) (by kernel_rfl) (by kernel_rfl) (fun _ _ _ h => by cases h.1) rfl (fun w0 hw0 => ex_field4 rfl rfl) S0 ?_
    simp only [Act.put, List.setIfInBounds_toArray, List.set_cons_zero, List.set_cons_succ]
    refine anyH_take (i := 5) (v := .string id) rfl (some 13) rfl (by kernel_rfl) (by kernel_rfl) (by kernel_rfl) (fun _ _ _ h => by cases h.1) rfl (fun w0 hw0 => ex_load rfl rfl (run_load_cell Tryd.underlying9 rfl (cells6 hw0.1).2.2.2.2.1)) S0 ?_
    simp only [Act.put, List.setIfInBounds_toArray, List.set_cons_zero, List.set_cons_succ]
    refine anyH_take (i := 6) (v := .slice (some ⟨b5, o5, none⟩) m gc5) rfl (some 14) rfl (by kernel_rfl) (by kernel_rfl) (by kernel_rfl) (fun _ _ _ h => by cases h.1) rfl (fun w0 hw0 => by first | rfl | kernel_rfl) S0 ?_
    simp only [Act.put, List.setIfInBounds_toArray, List.set_cons_zero, List.set_cons_succ]
    refine anyH_take (i := 7) (v := .slice (some ⟨b5, o5, none⟩) m gc5) rfl (some 15) rfl (by kernel_rfl) (by kernel_rfl) (by kernel_rfl) (fun _ _ _ h => by cases h.1) rfl (fun w0 hw0 => by first | rfl | kernel_rfl) S0 ?_
    simp only [Act.put, List.setIfInBounds_toArray, List.set_cons_zero, List.set_cons_succ]
    refine anyH_take (i := 8) (v := .int .i64 m) rfl (some 16) rfl (by kernel_rfl) (by kernel_rfl) (by kernel_rfl) (fun _ _ _ h => by cases h.1) rfl (fun w0 hw0 => ex_lenT rfl rfl) S0 ?_
    simp only [Act.put, List.setIfInBounds_toArray, List.set_cons_zero, List.set_cons_succ]
    refine anyH_take (i := 9) (v := .int .i64 ((m : Int) - 1)) rfl (some 17) rfl (by kernel_rfl) (by kernel_rfl) (by kernel_rfl) (fun _ _ _ h => by cases h.1) rfl (fun w0 hw0 => ex_sub1 rfl rfl hmw) S0 ?_
    simp only [Act.put, List.setIfInBounds_toArray, List.set_cons_zero, List.set_cons_succ]
    refine anyH_take (i := 10) (v := .slice (some ⟨b5, o5, none⟩) m gc5) rfl (some 18) rfl (by kernel_rfl) (by kernel_rfl) (by kernel_rfl) (fun _ _ _ h => by cases h.1) rfl (fun w0 hw0 => by first | rfl | kernel_rfl) S0 ?_
    simp only [Act.put, List.setIfInBounds_toArray, List.set_cons_zero, List.set_cons_succ]
    refine anyH_take (i := 11) (v := .int .i64 m) rfl (some 19) rfl (by kernel_rfl) (by kernel_rfl) (by kernel_rfl) (fun _ _ _ h => by cases h.1) rfl (fun w0 hw0 => ex_lenT rfl rfl) S0 ?_
    simp only [Act.put, List.setIfInBounds_toArray, List.set_cons_zero, List.set_cons_succ]
    refine anyH_take (i := 12) (v := .int .i64 ((m : Int) - 1)) rfl (some 20) rfl (by kernel_rfl) (by kernel_rfl) (by kernel_rfl) (fun _ _ _ h => by cases h.1) rfl (fun w0 hw0 => ex_sub1 rfl rfl hmw) S0 ?_
    simp only [Act.put, List.setIfInBounds_toArray, List.set_cons_zero, List.set_cons_succ]
    refine anyH_take (i := 13) (v := .slice (some ⟨b5, if m = 2 then o5 else o5 + 4, none⟩) (m - 2) (m - 2)) rfl (some 21) rfl (by kernel_rfl) (by kernel_rfl) (by kernel_rfl) (fun _ _ _ h => by cases h.1) rfl (fun w0 hw0 => ex_mid3 rfl rfl rfl rfl rfl rfl h2 hcap5) S0 ?_
    simp only [Act.put, List.setIfInBounds_toArray, List.set_cons_zero, List.set_cons_succ]
    rw [hoo, hn5]
    refine anyH_take (i := 14) (v := .agg #[.int .u8 1, .string ⟨#[114, 101, 115, 117, 108, 116]⟩, .string tt, .string fr, .string id, .slice (some ⟨b5, oo, none⟩) n5 n5]) rfl (some 22) rfl (by kernel_rfl) (by kernel_rfl) (by kernel_rfl) (fun _ _ _ h => by cases h.1) rfl (fun w0 hw0 => ex_build6 rfl (us := #[(0, .int .u8 1), (1, .string ⟨#[114, 101, 115, 117, 108, 116]⟩), (2, .string tt), (3, .string fr), (4, .string id), (5, .slice (some ⟨b5, oo, none⟩) n5 n5)]) (by simp [Act.eval]) (run_build6 _ _ _ _ _ _ _ _ w0)) S0 ?_
    simp only [Act.put, List.setIfInBounds_toArray, List.set_cons_zero, List.set_cons_succ]
    obtain ⟨V2, hV2⟩ : ∃ W, ((((((V0.setCell ⟨w.heap.size + 1, 0, none⟩ (.int .u8 1)).setCell ⟨w.heap.size + 1, 1, none⟩ (.string ⟨#[114, 101, 115, 117, 108, 116]⟩)).setCell ⟨w.heap.size + 1, 2, none⟩ (.string tt)).setCell ⟨w.heap.size + 1, 3, none⟩ (.string fr)).setCell ⟨w.heap.size + 1, 4, none⟩ (.string id)).setCell ⟨w.heap.size + 1, 5, none⟩ (.slice (some ⟨b5, oo, none⟩) n5 n5)) = W := ⟨_, rfl⟩
    have fb2 : V2.heap[w.heap.size + 1]? = some (.cells #[.int .u8 1, .string ⟨#[114, 101, 115, 117, 108, 116]⟩, .string tt, .string fr, .string id, .slice (some ⟨b5, oo, none⟩) n5 n5] 25) := by rw [← hV2]; exact set6 fb _ _ _ _ _ _
    have fa2 : V2.heap[w.heap.size]? = some (.cells #[.int .u8 k, .string ty, .string fr, .string tt, .string id, .slice pa pn pc] 25) := by rw [← hV2]; exact (other6 _ _ _ _ _ _ (by omega)).trans fa
    have B2 : Below w.heap.size w V2 := by rw [← hV2]; exact below6 BV (by omega) _ _ _ _ _ _
    have r2 : ElRow Wb.heap.size V2 (.slice (some ⟨b5, o5, none⟩) m gc5) l5 := by rw [← hV2]; exact r5.set6 hvz _ _ _ _ _ _
    refine anyH_one (i := 15) (by kernel_rfl) ?_
    refine op_store rfl rfl rfl (ex_store (u := .agg #[.int .u8 1, .string ⟨#[114, 101, 115, 117, 108, 116]⟩, .string tt, .string fr, .string id, .slice (some ⟨b5, oo, none⟩) n5 n5]) rfl rfl rfl (run_store_st fb _ _ _ _ _ _ _ _)) ?_
    rw [hV2]
    refine ⟨⟨fa2, trivial⟩, ?_⟩
    simp only [Act.put]
    exact wpAnyH_done (by kernel_rfl) ⟨rfl, _, _, _, _, _, _, _, _, _, _, _, _, _, _, _, _, _, _, _, _, _, _, fb2, hmemOf V2 r2, B2, rfl⟩ _
  case beh =>
    rintro a W ⟨x0, x1, x2, x3, x5, x6, x7, x8, x9, x10, x11, x12, x13, x14, x15, x16, x17, x18, x19, x20, x21, x22, g, hm', hB, rfl⟩
    have HG := hide (And.intro g (And.intro hm' hB))
    clear g hm' hB
    go_wp2_with fail
    exact bodyPost_ret (results_st4 rfl rfl HG.out.1) rfl ⟨some ⟨b5, oo, none⟩, n5, _, by rw [← hn5', hn5]; rfl, HG.out.2.1, HG.out.2.2⟩
set_option maxRecDepth 100000 in
set_option maxHeartbeats 4000000 in
theorem rerror_any (k : Int) (ty fr tt id : ByteArray) (pa : Option Addr) (pn pc : Nat) (c : Int) (w : World) :
    Calls Tryd.prog 25 #[.agg #[.int .u8 k, .string ty, .string fr, .string tt, .string id, .slice pa pn pc], .int .i64 c] w fun e w' => ∃ v l, e = .returned (.agg #[.int .u8 k, .string ty_error, .string tt, .string fr, .string id, v]) ∧ l.map (·.1) = errT c ∧ ElRow w.heap.size w' v l ∧ Below w.heap.size w w' := by
  obtain ⟨Wa, hWa, aa, ba, za⟩ := newV w 25 #[.int .u8 k, .string ty, .string fr, .string tt, .string id, .slice pa pn pc]
  obtain ⟨Wb, hWb, ab, bb, zb⟩ := newV Wa 25 #[.int .u8 0, .string ⟨#[]⟩, .string ⟨#[]⟩, .string ⟨#[]⟩, .string ⟨#[]⟩, .slice none 0 0]
  rw [za] at ab
  have aB := (bb.block w.heap.size (by omega)).trans aa
  have bB : Below w.heap.size w Wb := ba.trans (bb.mono (by omega))
  have HNm := hide (rname_any c Wb)
  have hel := refElement_row (condN c) none 0 [] none 0 [] (fun _ => (none, 0)) Wb (cond_small c).1 (attrMem_nil _ _) (fun _ => rfl) (tokMem_nil _ _) (fun i t h => by simp at h) (by simp)
  rw [show ([] : List (ByteArray × ByteArray)).length = 0 from rfl, show ([] : List Tok).length = 0 from rfl] at hel
  have HEL := hide hel
  have H0 := hide (And.intro aB (And.intro ab bB))
  clear aa ba ab bb aB bB hel
  go_enter Tryd.func25, Tryd.ntmps25
  go_wp2_with (first
    | (go_at_call 26; refine HNm.out.mono ?_; rintro e w1 ⟨rfl, rfl⟩)
    | (go_at_call 40; refine HEL.out.mono ?_; rintro e Wc ⟨v5, l5, rfl, e5, r5, b5'⟩; refine stopHere ?_))
  unfold Hid
  obtain ⟨aB, ab, bB⟩ := H0.out
  have hl5 : l5.length = 2 := by
    have h := congrArg List.length e5
    rw [List.length_map] at h
    exact h
  have hav5 := elrow_av r5
  rw [e5] at hav5
  obtain ⟨ga, gc, rfl⟩ := own_shape r5.1
  obtain ⟨ao5, cap5, q5, hT5⟩ := tokMem_own r5 (by omega)
  cases q5
  rw [e5] at hT5
  obtain ⟨n2, hn2⟩ : ∃ n2, l5.length = n2 := ⟨_, rfl⟩
  have hne : (elemT (condN c) [] []).length = n2 := by rw [← e5, List.length_map]; exact hn2
  rw [hn2]
  have g5 := (b5'.block _ (hp_lt aB)).trans aB
  have g5b := (b5'.block _ (hp_lt ab)).trans ab
  have B5 : Below w.heap.size w Wc := bB.trans (b5'.mono bB.size)
  have H5 := hide (And.intro g5 (And.intro g5b (And.intro B5 (And.intro hT5 (And.intro hav5 (And.intro hne (hl5.symm.trans hn2)))))))
  clear aB ab bB e5 r5 b5' hT5 g5 g5b B5 hl5 HEL hav5 hne hn2 HNm
  go_wp2_with fail
  obtain ⟨V0, hV0⟩ : ∃ V0, Wc.drew = V0 := ⟨_, rfl⟩
  obtain ⟨g5, g5b, B5, hT5, hav5, hne, hn2⟩ := H5.out
  have BV : Below w.heap.size w V0 := by rw [← hV0]; exact B5.drew
  have D0 : Below Wc.heap.size Wc V0 := by rw [← hV0]; exact (Below.refl _ _).drew
  have fa : V0.heap[w.heap.size]? = some (.cells #[.int .u8 k, .string ty, .string fr, .string tt, .string id, .slice pa pn pc] 25) := by rw [← hV0]; exact g5
  have fb : V0.heap[w.heap.size + 1]? = some (.cells #[.int .u8 0, .string ⟨#[]⟩, .string ⟨#[]⟩, .string ⟨#[]⟩, .string ⟨#[]⟩, .slice none 0 0] 25) := by rw [← hV0]; exact g5b
  refine region_rel (S := fun W => W.heap[w.heap.size]? = some (.cells #[.int .u8 k, .string ty, .string fr, .string tt, .string id, .slice pa pn pc] 25) ∧ True) (fun a W => ∃ (v : Value) (l : List TokV) (x0 x1 x2 x3 x5 x6 x7 x8 x9 x10 x11 x12 x13 x14 x15 x16 x17 x18 x19 x20 x21 x22 x23 : Value), W.heap[w.heap.size + 1]? = some (.cells #[.int .u8 k, .string ⟨#[101, 114, 114, 111, 114]⟩, .string tt, .string fr, .string id, v] 25) ∧ l.map (·.1) = errT c ∧ ElRow w.heap.size W v l ∧ Below w.heap.size w W ∧ a = { tmps := #[x0, x1, x2, x3, .pointer (some ⟨w.heap.size + 1, 0, none⟩), x5, x6, x7, x8, x9, x10, x11, x12, x13, x14, x15, x16, x17, x18, x19, x20, x21, x22, x23], defers := [] }) (by kernel_rfl) ?reg ?beh
  case reg =>
    rw [hV0]
    have S0 : V0.heap[w.heap.size]? = some (.cells #[.int .u8 k, .string ty, .string fr, .string tt, .string id, .slice pa pn pc] 25) ∧ True := ⟨fa, trivial⟩
    refine anyH_take (i := 0) (v := .pointer (some ⟨w.heap.size, 0, none⟩)) rfl (some 9) rfl (by kernel_rfl) (by kernel_rfl) (by kernel_rfl) (fun _ _ _ h => by cases h.1) rfl (fun w0 hw0 => ex_field0 rfl rfl) S0 ?_
    simp only [Act.put, List.setIfInBounds_toArray, List.set_cons_zero, List.set_cons_succ]
    refine anyH_take (i := 1) (v := .int .u8 k) rfl (some 10) rfl (by kernel_rfl) (by kernel_rfl) (by kernel_rfl) (fun _ _ _ h => by cases h.1) rfl (fun w0 hw0 => ex_load rfl rfl (run_load_cell Tryd.underlying22 rfl (cells6 hw0.1).1)) S0 ?_
    simp only [Act.put, List.setIfInBounds_toArray, List.set_cons_zero, List.set_cons_succ]
    refine anyH_take (i := 2) (v := .pointer (some ⟨w.heap.size, 3, none⟩)) rfl (some 11) rfl (by kernel_rfl) (by kernel_rfl) (by kernel_rfl) (fun _ _ _ h => by cases h.1) rfl (fun w0 hw0 => ex_field3 rfl rfl) S0 ?_
    simp only [Act.put, List.setIfInBounds_toArray, List.set_cons_zero, List.set_cons_succ]
    refine anyH_take (i := 3) (v := .string tt) rfl (some 12) rfl (by kernel_rfl) (by kernel_rfl) (by kernel_rfl) (fun _ _ _ h => by cases h.1) rfl (fun w0 hw0 => ex_load rfl rfl (run_load_cell Tryd.underlying9 rfl (cells6 hw0.1).2.2.2.1)) S0 ?_
    simp only [Act.put, List.setIfInBounds_toArray, List.set_cons_zero, List.set_cons_succ]
    refine anyH_take (i := 4) (v := .pointer (some ⟨w.heap.size, 2, none⟩)) rfl (some 13) rfl (by kernel_rfl) (by kernel_rfl) (by kernel_rfl) (fun _ _ _ h => by cases h.1) rfl (fun w0 hw0 => ex_field2 rfl rfl) S0 ?_
    simp only [Act.put, List.setIfInBounds_toArray, List.set_cons_zero, List.set_cons_succ]
    refine anyH_take (i := 5) (v := .string fr) rfl (some 14) rfl (by kernel_rfl) (by kernel_rfl) (by kernel_rfl) (fun _ _ _ h => by cases h.1) rfl (fun w0 hw0 => ex_load rfl rfl (run_load_cell Tryd.underlying9 rfl (cells6 hw0.1).2.2.1)) S0 ?_
    simp only [Act.put, List.setIfInBounds_toArray, List.set_cons_zero, List.set_cons_succ]
    refine anyH_take (i := 6) (v := .pointer (some ⟨w.heap.size, 4, none⟩)) rfl (some 15) rfl (by kernel_rfl) (by kernel_rfl) (by kernel_rfl) (fun _ _ _ h => by cases h.1) rfl (fun w0 hw0 => ex_field4 rfl rfl) S0 ?_
    simp only [Act.put, List.setIfInBounds_toArray, List.set_cons_zero, List.set_cons_succ]
    refine anyH_take (i := 7) (v := .string id) rfl (some 16) rfl (by kernel_rfl) (by kernel_rfl) (by kernel_rfl) (fun _ _ _ h => by cases h.1) rfl (fun w0 hw0 => ex_load rfl rfl (run_load_cell Tryd.underlying9 rfl (cells6 hw0.1).2.2.2.2.1)) S0 ?_
    simp only [Act.put, List.setIfInBounds_toArray, List.set_cons_zero, List.set_cons_succ]
    refine anyH_take (i := 8) (v := .int .i64 c) rfl (some 17) rfl (by kernel_rfl) (by kernel_rfl) (by kernel_rfl) (fun _ _ _ h => by cases h.1) rfl (fun w0 hw0 => by first | rfl | kernel_rfl) S0 ?_
    simp only [Act.put, List.setIfInBounds_toArray, List.set_cons_zero, List.set_cons_succ]
    refine anyH_take (i := 12) (v := .slice ga n2 gc) rfl (some 21) rfl (by kernel_rfl) (by kernel_rfl) (by kernel_rfl) (fun _ _ _ h => by cases h.1) rfl (fun w0 hw0 => by first | rfl | kernel_rfl) S0 ?_
    simp only [Act.put, List.setIfInBounds_toArray, List.set_cons_zero, List.set_cons_succ]
    refine anyH_one (i := 9) (by kernel_rfl) ?_
    refine op_call rfl (some 18) rfl rfl #[.int .i64 c] rfl (by simp [Act.eval]) (fun _ _ => rfl) (rtype_any c V0) ?_
    rintro e V1 ⟨rfl, rfl⟩
    refine ⟨_, rfl, S0, ?_⟩
    simp only [Act.put, List.setIfInBounds_toArray, List.set_cons_zero, List.set_cons_succ]
    refine anyH_take (i := 10) (v := .agg #[.string ⟨#[116, 121, 112, 101]⟩, .string (condT c)]) rfl (some 19) rfl (by kernel_rfl) (by kernel_rfl) (by kernel_rfl) (fun _ _ _ h => by cases h.1) rfl (fun w0 hw0 => ex_build6 rfl (us := #[(0, .string ⟨#[116, 121, 112, 101]⟩), (1, .string (condT c))]) (by simp [Act.eval]) (run_build2 _ _ w0)) S0 ?_
    simp only [Act.put, List.setIfInBounds_toArray, List.set_cons_zero, List.set_cons_succ]
    refine anyH_one (i := 11) (by kernel_rfl) ?_
    obtain ⟨V2, hV2, a2, c2, z2⟩ := newV V1 58 #[.string ⟨#[116, 121, 112, 101]⟩, .string (condT c)]
    refine op_run rfl (some 20) rfl rfl (ex_slice1 rfl (us := #[(0, .agg #[.string ⟨#[116, 121, 112, 101]⟩, .string (condT c)])]) (by simp [Act.eval]) (run_one1 _ _ V1)) ?_
    rw [hV2]
    have fa2 := (c2.block _ (hp_lt fa)).trans fa
    have fb2 := (c2.block _ (hp_lt fb)).trans fb
    refine ⟨⟨fa2, trivial⟩, ?_⟩
    simp only [Act.put, List.setIfInBounds_toArray, List.set_cons_zero, List.set_cons_succ]
    have hA2 : AttrMem V2.heap.size V2 (some ⟨V1.heap.size, 0, none⟩) [(⟨#[116, 121, 112, 101]⟩, condT c)] := attr_one a2 (by decide) (cond_small c).2
    have D2 : Below Wc.heap.size Wc V2 := D0.trans (c2.mono D0.size)
    have hT2 := (hT5.below D2).raise D2.size
    have hel := refElement_row ⟨#[101, 114, 114, 111, 114]⟩ (some ⟨V1.heap.size, 0, none⟩) 1 [(⟨#[116, 121, 112, 101]⟩, condT c)] ga gc (elemT (condN c) [] []) (avOf l5) V2 (by decide) hA2 (fun h => by cases h) hT2 hav5 (by rw [hne]; omega)
    rw [hne] at hel
    rw [show ([(⟨#[116, 121, 112, 101]⟩, condT c)] : List (ByteArray × ByteArray)).length = 1 from rfl] at hel
    refine anyH_one (i := 13) (by kernel_rfl) ?_
    refine op_call rfl (some 22) rfl rfl #[.string ⟨#[101, 114, 114, 111, 114]⟩, .slice (some ⟨V1.heap.size, 0, none⟩) 1 1, .slice ga n2 gc] rfl (by simp [Act.eval]) (fun _ _ => rfl) hel ?_
    rintro e V3 ⟨v3, l3, rfl, m3, r3, b3⟩
    have fa3 := (b3.block _ (hp_lt fa2)).trans fa2
    have fb3 := (b3.block _ (hp_lt fb2)).trans fb2
    refine ⟨_, rfl, ⟨fa3, trivial⟩, ?_⟩
    simp only [Act.put, List.setIfInBounds_toArray, List.set_cons_zero, List.set_cons_succ]
    obtain ⟨ga3, gc3, rfl⟩ := own_shape r3.1
    obtain ⟨n3, hn3⟩ : ∃ n3, l3.length = n3 := ⟨_, rfl⟩
    rw [hn3]
    refine anyH_val (i := 14) (by kernel_rfl) rfl (some 23) rfl rfl (ex_build6 rfl (us := #[(0, .int .u8 k), (1, .string ⟨#[101, 114, 114, 111, 114]⟩), (2, .string tt), (3, .string fr), (4, .string id), (5, .slice ga3 n3 gc3)]) (by simp [Act.eval]) (run_build6 _ _ _ _ _ _ _ _ V3)) ⟨fa3, trivial⟩ ?_
    simp only [Act.put, List.setIfInBounds_toArray, List.set_cons_zero, List.set_cons_succ]
    obtain ⟨V4, hV4⟩ : ∃ W, ((((((V3.setCell ⟨w.heap.size + 1, 0, none⟩ (.int .u8 k)).setCell ⟨w.heap.size + 1, 1, none⟩ (.string ⟨#[101, 114, 114, 111, 114]⟩)).setCell ⟨w.heap.size + 1, 2, none⟩ (.string tt)).setCell ⟨w.heap.size + 1, 3, none⟩ (.string fr)).setCell ⟨w.heap.size + 1, 4, none⟩ (.string id)).setCell ⟨w.heap.size + 1, 5, none⟩ (.slice ga3 n3 gc3)) = W := ⟨_, rfl⟩
    have fb4 : V4.heap[w.heap.size + 1]? = some (.cells #[.int .u8 k, .string ⟨#[101, 114, 114, 111, 114]⟩, .string tt, .string fr, .string id, .slice ga3 n3 gc3] 25) := by rw [← hV4]; exact set6 fb3 _ _ _ _ _ _
    have fa4 : V4.heap[w.heap.size]? = some (.cells #[.int .u8 k, .string ty, .string fr, .string tt, .string id, .slice pa pn pc] 25) := by rw [← hV4]; exact (other6 _ _ _ _ _ _ (by omega)).trans fa3
    have B3 : Below w.heap.size w V3 := (BV.trans (c2.mono BV.size)).trans (b3.mono (Nat.le_trans BV.size c2.size))
    have B4 : Below w.heap.size w V4 := by rw [← hV4]; exact below6 B3 (by omega) _ _ _ _ _ _
    have hvz2 : w.heap.size + 1 < V2.heap.size := hp_lt fb2
    have r4 : ElRow w.heap.size V4 (.slice ga3 n3 gc3) l3 := by rw [← hV4, ← hn3]; exact (r3.set6 hvz2 _ _ _ _ _ _).lower (by omega)
    refine anyH_one (i := 15) (by kernel_rfl) ?_
    refine op_store rfl rfl rfl (ex_store (u := .agg #[.int .u8 k, .string ⟨#[101, 114, 114, 111, 114]⟩, .string tt, .string fr, .string id, .slice ga3 n3 gc3]) rfl rfl rfl (run_store_st fb3 _ _ _ _ _ _ _ _)) ?_
    rw [hV4]
    refine ⟨⟨fa4, trivial⟩, ?_⟩
    simp only [Act.put]
    exact wpAnyH_done (by kernel_rfl) ⟨rfl, _, l3, _, _, _, _, _, _, _, _, _, _, _, _, _, _, _, _, _, _, _, _, _, _, _, fb4, m3, r4, B4, rfl⟩ _
  case beh =>
    rintro a W ⟨v, l, x0, x1, x2, x3, x5, x6, x7, x8, x9, x10, x11, x12, x13, x14, x15, x16, x17, x18, x19, x20, x21, x22, x23, g, hm, hr, hB, rfl⟩
    have HG := hide (And.intro g (And.intro hm (And.intro hr hB)))
    clear g hm hr hB
    go_wp2_with fail
    exact bodyPost_ret (results_st4 rfl rfl HG.out.1) rfl ⟨_, l, rfl, HG.out.2.1, HG.out.2.2.1, HG.out.2.2.2⟩
end Go.Proofs.YtpknifioflagaaaDoor
