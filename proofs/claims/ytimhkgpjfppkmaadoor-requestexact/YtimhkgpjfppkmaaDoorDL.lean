/- Steps of a walk that move many cells at once. -/
import Derived.RangeFuncNested
import Derived.RangeFuncLeaves
import Derived.OwnWalkIn
import Derived.WalkKit
import Derived.Test.YtimhkgpjfppkmaaDoorJBase
import Derived.Deep.MidRow
import Derived.Deep.WholeRow
namespace Go.Proofs.YtimhkgpjfppkmaaDoor
open Go Go.RowKit
variable {P : Program}

/-- One operation whose run is known, at the head of a list. -/
theorem l_val {ops : Array Oper} {rest : List Oper} {o : Oper} {a : Act} {w w' : World} {Q : Exit → Act → World → Prop} (hg : o.guard = none) (v : Value) (hr : (execOp a.eval o).run P w = .ok (.value v) w') (h : wpList P ops Q rest (a.put o.dst v) w') : wpList P ops Q (o :: rest) a w :=
  wpList_plain hg fun K hK => by
    unfold Oper.wp
    rw [hr]
    exact hK _ _ h
theorem l_skip {ops : Array Oper} {rest : List Oper} {o : Oper} {a : Act} {w w' : World} {Q : Exit → Act → World → Prop} (hg : o.guard = none) (hr : (execOp a.eval o).run P w = .ok .skip w') (h : wpList P ops Q rest (a.put o.dst undef) w') : wpList P ops Q (o :: rest) a w :=
  wpList_plain hg fun K hK => by
    unfold Oper.wp
    rw [hr]
    exact hK _ _ h
variable {F : Fence} {n : Nat}
theorem i_val {ops : Array Oper} {rest : List Oper} {o : Oper} {a : Act} {w w' : World} {Q : Exit → Act → World → Prop} (hg : o.guard = none) (hc : ∀ c, o.op ≠ .call c) (hd : ∀ c, o.op ≠ .defer c) (v : Value) (hr : (execOp a.eval o).run P w = .ok (.value v) w') (h : wpListIn F n P ops Q rest (a.put o.dst v) w') : wpListIn F n P ops Q (o :: rest) a w :=
  wpListIn_plain hg fun K hK => by
    refine ⟨fun f hf => ?_, ?_⟩
    · unfold Oper.about at hf
      split at hf
      · exact absurd (by assumption) (hc _)
      · cases hf
    · rw [Oper.semAt_plain F _ _ hd, hr]
      exact hK _ _ h
theorem i_skip {ops : Array Oper} {rest : List Oper} {o : Oper} {a : Act} {w w' : World} {Q : Exit → Act → World → Prop} (hg : o.guard = none) (hc : ∀ c, o.op ≠ .call c) (hd : ∀ c, o.op ≠ .defer c) (hr : (execOp a.eval o).run P w = .ok .skip w') (h : wpListIn F n P ops Q rest (a.put o.dst undef) w') : wpListIn F n P ops Q (o :: rest) a w :=
  wpListIn_plain hg fun K hK => by
    refine ⟨fun f hf => ?_, ?_⟩
    · unfold Oper.about at hf
      split at hf
      · exact absurd (by assumption) (hc _)
      · cases hf
    · rw [Oper.semAt_plain F _ _ hd, hr]
      exact hK _ _ h

section
variable {ops : Array Oper} {rest : List Oper} {o : Oper} {a : Act} {w w' : World} {Q : Exit → Act → World → Prop}
theorem ex_load {ty : TypeId} {x : Operand} {v : Value} {p : Addr} (ho : o.op = .load ty x) (hx : a.eval x = .pointer (some p)) (hr : (Instr.loadAt ty (.pointer (some p))).run P w = .ok v w') : (execOp a.eval o).run P w = .ok (.value v) w' := by
  unfold execOp
  simp [ho, hx, hr]
theorem ex_store {ty : TypeId} {x y : Operand} {u : Value} {p : Addr} (ho : o.op = .store ty x y) (hx : a.eval x = .pointer (some p)) (hy : a.eval y = u) (hr : (Instr.storeAt ty (.pointer (some p)) u).run P w = .ok () w') : (execOp a.eval o).run P w = .ok .skip w' := by
  unfold execOp
  simp [ho, hx, hy, hr]
theorem ex_alloc {ty : TypeId} {v : Value} (ho : o.op = .alloc ty) (hr : (Instr.alloc ty true (.tuple #[])).run P w = .ok v w') : (execOp a.eval o).run P w = .ok (.value v) w' := by
  unfold execOp
  simp [ho, hr]
theorem ex_box {ty : TypeId} {x : Operand} {u v : Value} (ho : o.op = .box ty x) (hx : a.eval x = u) (hr : (Instr.box ty u).run P w = .ok v w') : (execOp a.eval o).run P w = .ok (.value v) w' := by
  unfold execOp
  simp [ho, hx, hr]
/-- A long variable is loaded. -/
theorem l_load (ty : TypeId) {x : Operand} {v : Value} {p : Addr} (hr : (Instr.loadAt ty (.pointer (some p))).run P w = .ok v w) (hg : o.guard = none) (ho : o.op = .load ty x) (hx : a.eval x = .pointer (some p)) (h : wpList P ops Q rest (a.put o.dst v) w) : wpList P ops Q (o :: rest) a w := l_val hg v (ex_load ho hx hr) h
theorem i_load (ty : TypeId) {x : Operand} {v : Value} {p : Addr} (hr : (Instr.loadAt ty (.pointer (some p))).run P w = .ok v w) (hg : o.guard = none) (ho : o.op = .load ty x) (hx : a.eval x = .pointer (some p)) (h : wpListIn F n P ops Q rest (a.put o.dst v) w) : wpListIn F n P ops Q (o :: rest) a w := i_val hg (fun c e => by rw [ho] at e; cases e) (fun c e => by rw [ho] at e; cases e) v (ex_load ho hx hr) h
/-- A long variable is stored. -/
theorem l_store (ty : TypeId) {x y : Operand} {u : Value} {p : Addr} (hr : (Instr.storeAt ty (.pointer (some p)) u).run P w = .ok () w') (hg : o.guard = none) (ho : o.op = .store ty x y) (hx : a.eval x = .pointer (some p)) (hy : a.eval y = u) (h : wpList P ops Q rest (a.put o.dst undef) w') : wpList P ops Q (o :: rest) a w := l_skip hg (ex_store ho hx hy hr) h
theorem i_store (ty : TypeId) {x y : Operand} {u : Value} {p : Addr} (hr : (Instr.storeAt ty (.pointer (some p)) u).run P w = .ok () w') (hg : o.guard = none) (ho : o.op = .store ty x y) (hx : a.eval x = .pointer (some p)) (hy : a.eval y = u) (h : wpListIn F n P ops Q rest (a.put o.dst undef) w') : wpListIn F n P ops Q (o :: rest) a w := i_skip hg (fun c e => by rw [ho] at e; cases e) (fun c e => by rw [ho] at e; cases e) (ex_store ho hx hy hr) h
theorem run_alloc_long {ty : TypeId} {cs : Array Value} {m b : Nat} (hi : (P.info? ty).map (fun i => (i.zero, i.size, i.bytes)) = some (some (.agg cs), m, b)) (w : World) : (Instr.alloc ty true (.tuple #[])).run P w = .ok (.pointer (some ⟨w.heap.size, 0, none⟩)) (w.alloc (.cells cs ty)) := by
  cases hq : P.info? ty with
  | none => simp [hq] at hi
  | some i =>
    simp [hq] at hi
    simp [Instr.alloc, zeroValue, typeInfo, hq, hi.1, newVar, newRow, Value.cells]
theorem run_box_long (ty : TypeId) (cs : Array Value) (w : World) : (Instr.box ty (.agg cs)).run P w = .ok (.pointer (some ⟨w.heap.size, 0, none⟩)) (w.alloc (.cells cs ty)) := by
  simp [Instr.box, newVar, newRow, Value.cells]
/-- A long variable is made, with its zero. -/
theorem l_alloc (ty : TypeId) {cs : Array Value} {m b : Nat} (hi : (P.info? ty).map (fun i => (i.zero, i.size, i.bytes)) = some (some (.agg cs), m, b)) (hg : o.guard = none) (ho : o.op = .alloc ty) (h : wpList P ops Q rest (a.put o.dst (.pointer (some ⟨w.heap.size, 0, none⟩))) (w.alloc (.cells cs ty))) : wpList P ops Q (o :: rest) a w := l_val hg _ (ex_alloc ho (run_alloc_long hi w)) h
theorem i_alloc (ty : TypeId) {cs : Array Value} {m b : Nat} (hi : (P.info? ty).map (fun i => (i.zero, i.size, i.bytes)) = some (some (.agg cs), m, b)) (hg : o.guard = none) (ho : o.op = .alloc ty) (h : wpListIn F n P ops Q rest (a.put o.dst (.pointer (some ⟨w.heap.size, 0, none⟩))) (w.alloc (.cells cs ty))) : wpListIn F n P ops Q (o :: rest) a w := i_val hg (fun c e => by rw [ho] at e; cases e) (fun c e => by rw [ho] at e; cases e) _ (ex_alloc ho (run_alloc_long hi w)) h
/-- What is stored in a block that was made last stands there. -/
theorem run_store_new {ty : TypeId} {cs c : Array Value} {v : Value} {m b : Nat} (hi : (P.info? ty).map (fun i => (i.zero, i.size, i.bytes)) = some (some v, m, b)) (w : World) (h1 : cs.size = m) (h2 : c.size = m) (h3 : cs.all (·.oneCell') = true) : (Instr.storeAt ty (.pointer (some ⟨w.heap.size, 0, none⟩)) (.agg cs)).run P (w.alloc (.cells c ty)) = .ok () (w.alloc (.cells cs ty)) :=
  run_storeAt_new w ty c cs (by cases hq : P.info? ty with | none => simp [hq] at hi | some i => simp [hq] at hi; simp [hi.2.1, h1]) (by omega) h3
/-- What lies in a block from its head on is loaded. -/
theorem run_load_row {ty ty' : TypeId} {cs : Array Value} {v : Value} {m b g : Nat} {d : TypeDesc} (hi : (P.info? ty).map (fun i => (i.zero, i.size, i.bytes)) = some (some v, m, b)) (hu : P.underlying ty = some d) (hd : d.isRow = true) (h1 : cs.size = m) (hw : w.heap[g]? = some (.cells cs ty')) : (Instr.loadAt ty (.pointer (some ⟨g, 0, none⟩))).run P w = .ok (.agg cs) w := by
  have h := run_loadAt_mid (P := P) w g 0 ty cs.toList d (fun j v hv => by
    rw [cell_of_row w g (0 + j) cs ty' (0, 0) hw]
    simpa using hv) hu hd (by cases hq : P.info? ty with | none => simp [hq] at hi | some i => simp [hq] at hi; simp [hi.2.1, h1])
  simpa using h
end
theorem one_bytes (s : List UInt8) : ∀ v ∈ Lib.byteCells s, v.oneCell' = true := by
  intro v hv
  simp [Lib.byteCells] at hv
  obtain ⟨b, _, rfl⟩ := hv
  rfl
end Go.Proofs.YtimhkgpjfppkmaaDoor
