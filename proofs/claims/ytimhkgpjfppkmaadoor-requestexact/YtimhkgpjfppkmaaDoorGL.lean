/- Guarded operations by hand; requests that are unlike. -/
import Derived.Test.YtimhkgpjfppkmaaDoorRq15
namespace Go.Proofs.YtimhkgpjfppkmaaDoor
open Go.RowKit Go.Shelf

theorem l_valG {P : Program} {ops : Array Oper} {rest : List Oper} {o : Oper} {a : Act} {w w' : World} {Q : Exit → Act → World → Prop} (hw : Region.wanted o (yielded ops a.tmps) = true) (v : Value) (hr : (execOp a.eval o).run P w = .ok (.value v) w') (h : wpList P ops Q rest (a.put o.dst v) w') : wpList P ops Q (o :: rest) a w :=
  wpList_step fun K hK => by
    rw [if_pos hw]
    unfold Oper.wp
    rw [hr]
    exact hK _ _ h
theorem l_loadG {P : Program} {ops : Array Oper} {rest : List Oper} {o : Oper} {a : Act} {w : World} {Q : Exit → Act → World → Prop} (ty : TypeId) {x : Operand} {v : Value} {p : Addr} (hr : (Instr.loadAt ty (.pointer (some p))).run P w = .ok v w) (hw : Region.wanted o (yielded ops a.tmps) = true) (ho : o.op = .load ty x) (hx : a.eval x = .pointer (some p)) (h : wpList P ops Q rest (a.put o.dst v) w) : wpList P ops Q (o :: rest) a w := l_valG hw v (ex_load ho hx hr) h
set_option maxRecDepth 100000 in
set_option maxHeartbeats 4000000 in
theorem neq_same (r : Rq) (w : World) : (binOp .neq 26 (.agg (rqA r)) (.agg (rqA r))).run Tryd.prog w = .ok (.bool false) w := by
  have u := Tryd.underlying26
  unfold rqA
  go_simp
theorem eqGuardNq (x y : Operand) (a b : Array Value) (w : World) : (eqGuard .neq 26 x y (.agg a) (.agg b)).run Tryd.prog w = .ok () w := by
  unfold eqGuard
  simp [go_sem]
theorem ex_neqSame {o : Oper} {c : Act} {w : World} {T' : TypeId} {x y : Operand} {a : Rq} (ho : o.op = .binOp .neq 26 x y T') (hx : c.eval x = .agg (rqA a)) (hy : c.eval y = .agg (rqA a)) : (execOp c.eval o).run Tryd.prog w = .ok (.value (.bool false)) w := by
  unfold execOp
  simp only [ho, hx, hy]
  simp only [Sem.run_bind, eqGuardNq, neq_same, Result.andThen_ok, Sem.run_pure]
theorem eq_zero : eqRq zeroRq zeroRq = true := (eqRq_iff _ _).2 rfl
theorem store_rq (r : Rq) (w : World) : (Instr.storeAt 26 (.pointer (some ⟨w.heap.size, 0, none⟩)) (.agg (rqA r))).run Tryd.prog (w.alloc (.cells #[.int .u8 0, .string ⟨#[]⟩, .string ⟨#[]⟩, .string ⟨#[]⟩, .int .u8 0, .int .u8 0, .int .i64 0, .int .i64 0, .string ⟨#[]⟩, .bool false, .string ⟨#[]⟩] 26)) = .ok () (w.alloc (.cells (rqA r) 26)) :=
  run_store_new (P := Tryd.prog) infoRq w rfl rfl (by simp [rqA, Value.oneCell'])
end Go.Proofs.YtimhkgpjfppkmaaDoor
