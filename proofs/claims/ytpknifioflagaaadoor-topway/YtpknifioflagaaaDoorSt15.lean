/- Stanzas: Result. -/
import Derived.Test.YtpknifioflagaaaDoorSt14
namespace Go.Proofs.YtpknifioflagaaaDoor
open Go.RowKit Go.Shelf

theorem ex_field2 {o : Oper} {a : Act} {w : World} {x : Operand} {b : Nat} (ho : o.op = .fieldAddr 25 x 2) (hx : a.eval x = .pointer (some ⟨b, 0, none⟩)) : (execOp a.eval o).run Tryd.prog w = .ok (.value (.pointer (some ⟨b, 2, none⟩))) w := by
  unfold execOp
  simp only [ho, hx]
  go_simp
theorem ex_field3 {o : Oper} {a : Act} {w : World} {x : Operand} {b : Nat} (ho : o.op = .fieldAddr 25 x 3) (hx : a.eval x = .pointer (some ⟨b, 0, none⟩)) : (execOp a.eval o).run Tryd.prog w = .ok (.value (.pointer (some ⟨b, 3, none⟩))) w := by
  unfold execOp
  simp only [ho, hx]
  go_simp
theorem ex_field4 {o : Oper} {a : Act} {w : World} {x : Operand} {b : Nat} (ho : o.op = .fieldAddr 25 x 4) (hx : a.eval x = .pointer (some ⟨b, 0, none⟩)) : (execOp a.eval o).run Tryd.prog w = .ok (.value (.pointer (some ⟨b, 4, none⟩))) w := by
  unfold execOp
  simp only [ho, hx]
  go_simp
theorem ex_build6 {o : Oper} {a : Act} {w : World} {T : TypeId} {ps : Array (Nat × Operand)} {v : Value} {us : Array (Nat × Value)} (ho : o.op = .build T ps) (hp : (ps.map fun x => (x.1, a.eval x.2)) = us) (hr : (Instr.build T us).run Tryd.prog w = .ok v w) : (execOp a.eval o).run Tryd.prog w = .ok (.value v) w := by
  unfold execOp
  simp only [ho]
  rw [show (ps.map fun (i, x) => (i, a.eval x)) = us from hp]
  simp [hr]
theorem run_build6 (k : Int) (a b c d : ByteArray) (ga : Option Addr) (n gc : Nat) (w : World) : (Instr.build 25 #[(0, .int .u8 k), (1, .string a), (2, .string b), (3, .string c), (4, .string d), (5, .slice ga n gc)]).run Tryd.prog w = .ok (.agg #[.int .u8 k, .string a, .string b, .string c, .string d, .slice ga n gc]) w := by kernel_rfl
set_option maxRecDepth 100000 in
set_option maxHeartbeats 4000000 in
theorem result_any (k : Int) (ty fr tt id : ByteArray) (pa : Option Addr) (pn pc : Nat) (ao : Option Addr) (cap : Nat) (ts : List Tok) (av : Nat → Option Addr × Nat) (w : World) (hT : TokMem w.heap.size w ao ts av) :
    Calls Tryd.prog 22 #[.agg #[.int .u8 k, .string ty, .string fr, .string tt, .string id, .slice pa pn pc], .slice ao ts.length cap] w fun e w' => ∃ v l, e = .returned (.agg #[.int .u8 1, .string ty_result, .string tt, .string fr, .string id, v]) ∧ l.map (·.1) = ts ∧ ElRow w.heap.size w' v l ∧ Below w.heap.size w w' := by
  obtain ⟨Wa, hWa, aa, ba, za⟩ := newV w 25 #[.int .u8 k, .string ty, .string fr, .string tt, .string id, .slice pa pn pc]
  obtain ⟨Wb, hWb, ab, bb, zb⟩ := newV Wa 25 #[.int .u8 0, .string ⟨#[]⟩, .string ⟨#[]⟩, .string ⟨#[]⟩, .string ⟨#[]⟩, .slice none 0 0]
  rw [za] at ab
  have aB := (bb.block w.heap.size (by omega)).trans aa
  have bB : Below w.heap.size w Wb := ba.trans (bb.mono (by omega))
  obtain ⟨m, hml⟩ : ∃ m, ts.length = m := ⟨_, rfl⟩
  have H0 := hide (And.intro aB (And.intro ab (And.intro bB (And.intro hT hml))))
  rw [hml]
  clear aa ba ab bb aB bB hT hml
  go_enter Tryd.func22, Tryd.ntmps22
  go_wp2_with fail
  obtain ⟨V0, hV0⟩ : ∃ V0, Wb.drew = V0 := ⟨_, rfl⟩
  obtain ⟨aB, ab, bB, hT, hml⟩ := H0.out
  have BV : Below w.heap.size w V0 := by rw [← hV0]; exact bB.drew
  have fa : V0.heap[w.heap.size]? = some (.cells #[.int .u8 k, .string ty, .string fr, .string tt, .string id, .slice pa pn pc] 25) := by rw [← hV0]; exact aB
  have fb : V0.heap[w.heap.size + 1]? = some (.cells #[.int .u8 0, .string ⟨#[]⟩, .string ⟨#[]⟩, .string ⟨#[]⟩, .string ⟨#[]⟩, .slice none 0 0] 25) := by rw [← hV0]; exact ab
  have HC := hide (copyTokens_any ao cap ts av V0 ((hT.below BV).raise BV.size))
  rw [hml] at HC
  refine region_rel (S := fun W => W.heap[w.heap.size]? = some (.cells #[.int .u8 k, .string ty, .string fr, .string tt, .string id, .slice pa pn pc] 25)) (fun a W => ∃ (v : Value) (l : List TokV) (x0 x1 x2 x3 x5 x6 x7 x8 x9 x10 x11 x12 x13 : Value), W.heap[w.heap.size + 1]? = some (.cells #[.int .u8 1, .string ⟨#[114, 101, 115, 117, 108, 116]⟩, .string tt, .string fr, .string id, v] 25) ∧ l.map (·.1) = ts ∧ ElRow w.heap.size W v l ∧ Below w.heap.size w W ∧ a = { tmps := #[x0, x1, x2, x3, .pointer (some ⟨w.heap.size + 1, 0, none⟩), x5, x6, x7, x8, x9, x10, x11, x12, x13], defers := [] }) (by kernel_rfl) ?reg ?beh
  case reg =>
    rw [hV0]
    have S0 := fa
    refine anyH_take (i := 0) (v := .pointer (some ⟨w.heap.size, 3, none⟩)) rfl (some 5) rfl (by kernel_rfl) (by kernel_rfl) (by kernel_rfl) (fun _ _ _ h => by cases h.1) rfl (fun w0 hw0 => ex_field3 rfl rfl) S0 ?_
    simp only [Act.put, List.setIfInBounds_toArray, List.set_cons_zero, List.set_cons_succ]
    refine anyH_take (i := 1) (v := .string tt) rfl (some 6) rfl (by kernel_rfl) (by kernel_rfl) (by kernel_rfl) (fun _ _ _ h => by cases h.1) rfl (fun w0 hw0 => ex_load rfl rfl (run_load_cell Tryd.underlying9 rfl (cells6 hw0).2.2.2.1)) S0 ?_
    simp only [Act.put, List.setIfInBounds_toArray, List.set_cons_zero, List.set_cons_succ]
    refine anyH_take (i := 2) (v := .pointer (some ⟨w.heap.size, 2, none⟩)) rfl (some 7) rfl (by kernel_rfl) (by kernel_rfl) (by kernel_rfl) (fun _ _ _ h => by cases h.1) rfl (fun w0 hw0 => ex_field2 rfl rfl) S0 ?_
    simp only [Act.put, List.setIfInBounds_toArray, List.set_cons_zero, List.set_cons_succ]
    refine anyH_take (i := 3) (v := .string fr) rfl (some 8) rfl (by kernel_rfl) (by kernel_rfl) (by kernel_rfl) (fun _ _ _ h => by cases h.1) rfl (fun w0 hw0 => ex_load rfl rfl (run_load_cell Tryd.underlying9 rfl (cells6 hw0).2.2.1)) S0 ?_
    simp only [Act.put, List.setIfInBounds_toArray, List.set_cons_zero, List.set_cons_succ]
    refine anyH_take (i := 4) (v := .pointer (some ⟨w.heap.size, 4, none⟩)) rfl (some 9) rfl (by kernel_rfl) (by kernel_rfl) (by kernel_rfl) (fun _ _ _ h => by cases h.1) rfl (fun w0 hw0 => ex_field4 rfl rfl) S0 ?_
    simp only [Act.put, List.setIfInBounds_toArray, List.set_cons_zero, List.set_cons_succ]
    refine anyH_take (i := 5) (v := .string id) rfl (some 10) rfl (by kernel_rfl) (by kernel_rfl) (by kernel_rfl) (fun _ _ _ h => by cases h.1) rfl (fun w0 hw0 => ex_load rfl rfl (run_load_cell Tryd.underlying9 rfl (cells6 hw0).2.2.2.2.1)) S0 ?_
    simp only [Act.put, List.setIfInBounds_toArray, List.set_cons_zero, List.set_cons_succ]
    refine anyH_take (i := 6) (v := .slice ao m cap) rfl (some 11) rfl (by kernel_rfl) (by kernel_rfl) (by kernel_rfl) (fun _ _ _ h => by cases h.1) rfl (fun w0 hw0 => by first | rfl | kernel_rfl) S0 ?_
    simp only [Act.put, List.setIfInBounds_toArray, List.set_cons_zero, List.set_cons_succ]
    refine anyH_one (i := 7) (by kernel_rfl) ?_
    refine op_call rfl (some 12) rfl rfl #[.slice ao m cap] rfl (by simp [Act.eval]) (fun _ _ => rfl) HC.out ?_
    rintro e V1 ⟨v1, l1, rfl, m1, r1, b1⟩
    obtain ⟨ga, gc, rfl⟩ := own_shape r1.1
    have fa1 := (b1.block _ (hp_lt fa)).trans fa
    have fb1 := (b1.block _ (hp_lt fb)).trans fb
    have hz1 := b1.size
    refine ⟨_, rfl, fa1, ?_⟩
    simp only [Act.put, List.setIfInBounds_toArray, List.set_cons_zero, List.set_cons_succ]
    obtain ⟨n3, hn3⟩ : ∃ n3, l1.length = n3 := ⟨_, rfl⟩
    rw [hn3]
    refine anyH_val (i := 8) (by kernel_rfl) rfl (some 13) rfl rfl (ex_build6 rfl (us := #[(0, .int .u8 1), (1, .string ⟨#[114, 101, 115, 117, 108, 116]⟩), (2, .string tt), (3, .string fr), (4, .string id), (5, .slice ga n3 gc)]) (by simp [Act.eval]) (run_build6 _ _ _ _ _ _ _ _ V1)) fa1 ?_
    simp only [Act.put, List.setIfInBounds_toArray, List.set_cons_zero, List.set_cons_succ]
    obtain ⟨V2, hV2⟩ : ∃ W, ((((((V1.setCell ⟨w.heap.size + 1, 0, none⟩ (.int .u8 1)).setCell ⟨w.heap.size + 1, 1, none⟩ (.string ⟨#[114, 101, 115, 117, 108, 116]⟩)).setCell ⟨w.heap.size + 1, 2, none⟩ (.string tt)).setCell ⟨w.heap.size + 1, 3, none⟩ (.string fr)).setCell ⟨w.heap.size + 1, 4, none⟩ (.string id)).setCell ⟨w.heap.size + 1, 5, none⟩ (.slice ga n3 gc)) = W := ⟨_, rfl⟩
    have fb2 : V2.heap[w.heap.size + 1]? = some (.cells #[.int .u8 1, .string ⟨#[114, 101, 115, 117, 108, 116]⟩, .string tt, .string fr, .string id, .slice ga n3 gc] 25) := by rw [← hV2]; exact set6 fb1 _ _ _ _ _ _
    have fa2 : V2.heap[w.heap.size]? = some (.cells #[.int .u8 k, .string ty, .string fr, .string tt, .string id, .slice pa pn pc] 25) := by rw [← hV2]; exact (other6 _ _ _ _ _ _ (by omega)).trans fa1
    have B1 : Below w.heap.size w V1 := BV.trans (b1.mono BV.size)
    have B2 : Below w.heap.size w V2 := by rw [← hV2]; exact below6 B1 (by omega) _ _ _ _ _ _
    have hvz : w.heap.size + 1 < V0.heap.size := hp_lt fb
    have r2 : ElRow w.heap.size V2 (.slice ga n3 gc) l1 := by rw [← hV2, ← hn3]; exact (r1.set6 hvz _ _ _ _ _ _).lower (by omega)
    refine anyH_one (i := 9) (by kernel_rfl) ?_
    refine op_store rfl rfl rfl (ex_store (u := .agg #[.int .u8 1, .string ⟨#[114, 101, 115, 117, 108, 116]⟩, .string tt, .string fr, .string id, .slice ga n3 gc]) rfl rfl rfl (run_store_st fb1 _ _ _ _ _ _ _ _)) ?_
    rw [hV2]
    refine ⟨fa2, ?_⟩
    simp only [Act.put]
    exact wpAnyH_done (by kernel_rfl) ⟨rfl, _, l1, _, _, _, _, _, _, _, _, _, _, _, _, _, fb2, m1, r2, B2, rfl⟩ _
  case beh =>
    rintro a W ⟨v, l, x0, x1, x2, x3, x5, x6, x7, x8, x9, x10, x11, x12, x13, g, hm, hr, hB, rfl⟩
    have HG := hide (And.intro g (And.intro hm (And.intro hr hB)))
    clear g hm hr hB
    go_wp2_with fail
    exact bodyPost_ret (results_st4 rfl rfl HG.out.1) rfl ⟨_, l, rfl, HG.out.2.1, HG.out.2.2.1, HG.out.2.2.2⟩
end Go.Proofs.YtpknifioflagaaaDoor
