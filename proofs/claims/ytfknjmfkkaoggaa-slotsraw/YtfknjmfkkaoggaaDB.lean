/- Values of many cells that are put together. -/
import Derived.Test.YtfknjmfkkaoggaaD3
namespace Go.Proofs.Ytfknjmfkkaoggaa
open Go.RowKit

/-- What is laid over cells from a place on. -/
theorem overlay (off : Nat) : ∀ (vs : List Value) (k : Nat) (cells : Array Value), off + k + vs.length ≤ cells.size →
    ((vs.zipIdx k).foldl (fun (cs : Array Value) (x : Value × Nat) => cs.setIfInBounds (off + x.2) x.1) cells).toList = cells.toList.take (off + k) ++ vs ++ cells.toList.drop (off + k + vs.length)
  | [], k, cells, _ => by simp
  | v :: r, k, cells, h => by
    simp only [List.length_cons] at h
    have ih := overlay off r (k + 1) (cells.setIfInBounds (off + k) v) (by simp; omega)
    simp only [List.zipIdx_cons, List.foldl_cons, List.length_cons]
    rw [ih]
    simp only [Array.toList_setIfInBounds]
    rw [show off + (k + 1) = off + k + 1 by omega, List.take_succ_eq_append_getElem (by simp; omega), List.getElem_set_self, List.take_set_of_le (Nat.le_refl _), List.drop_set_of_lt (by omega)]
    simp [List.append_assoc, Nat.add_assoc, Nat.add_comm 1]
theorem overlay_arr (off : Nat) (vs cells : Array Value) (h : off + vs.size ≤ cells.size) :
    (vs.zipIdx.foldl (fun (cs : Array Value) (x : Value × Nat) => cs.setIfInBounds (off + x.2) x.1) cells).toList = cells.toList.take off ++ vs.toList ++ cells.toList.drop (off + vs.size) := by
  obtain ⟨vs⟩ := vs
  have := overlay off vs 0 cells (by simpa using h)
  simpa using this
theorem byteCells_cons (i : Nat) (s : Sec) (_ : s.length = 64) : (wrC1 (i, s)).length = s.length + 1 := by simp [wrC1, byteCells_len]
theorem arr_of_list {a b : Array Value} (h : a.toList = b.toList) : a = b := Array.toList_inj.1 h
set_option maxRecDepth 100000 in
/-- A number and a sector are made into a write. -/
theorem run_build_two {T : TypeId} {w : World} {fs : Array Field} (i : Nat) (s : Sec) (hs : s.length = 64) (hi : (Try.prog.info? T).map (fun i => (i.zero, i.size, i.bytes)) = some (some (.agg (wrC1 (0, sec0)).toArray), 65, 72)) (hu : Try.prog.underlying T = some (.struct fs))
    (hm : ∀ w, (Array.mapM (fun (f : Field) => Prod.mk f.offset <$> sizeOf f.type) fs : Sem (Array (Nat × Nat))).run Try.prog w = .ok #[(0, 1), (1, 64)] w) : (Instr.build T #[(0, .int .i64 i), (1, .agg (secA s))]).run Try.prog w = .ok (.agg (wrC1 (i, s)).toArray) w := by
  obtain ⟨ti, h1, h2, h3, h4⟩ := infos hi
  have hsz : (secA s).size = 64 := by rw [secA_size, hs]
  have hz : (wrC1 (0, sec0)).length = 65 := by simp [wrC1, byteCells_len, sec0]
  have hz1 : ((wrC1 (0, sec0)).set 0 (Value.int .i64 i)).length = 65 := by simp [hz]
  have hov := overlay_arr 1 (secA s) ((wrC1 (0, sec0)).toArray.setIfInBounds 0 (.int .i64 i)) (by simp [hsz, hz])
  have hov2 : ((secA s).zipIdx.foldl (fun (cs : Array Value) (x : Value × Nat) => cs.setIfInBounds (1 + x.2) x.1) ((wrC1 (0, sec0)).toArray.setIfInBounds 0 (.int .i64 i))) = (wrC1 (i, s)).toArray := by
    apply arr_of_list
    rw [hov]
    simp only [Array.toList_setIfInBounds, hsz]
    rw [show ((wrC1 (0, sec0)).toArray.toList.set 0 (Value.int .i64 i)).drop (1 + 64) = [] from List.drop_eq_nil_of_le (by simp [hz])]
    simp [wrC1, secA]
  have hfl : Instr.fill (#[(0, 1), (1, 64)][·]?) (wrC1 (0, sec0)).toArray [(0, .int .i64 i), (1, .agg (secA s))] = some (wrC1 (i, s)).toArray := by
    simp only [Instr.fill]
    simp [Value.cells, hz, hsz]
    simpa [hsz] using hov2
  unfold Instr.build
  have hfl2 : Instr.fill (fun x => [(0, 1), (1, 64)][x]?) (wrC1 (0, sec0)).toArray [(0, .int .i64 i), (1, .agg (secA s))] = some (wrC1 (i, s)).toArray := by
    rw [← hfl]
    congr 1
    funext x
    simp
  simp [zeroValue, typeInfo, h1, h2, Value.cells]
  rw [run_underlying hu]
  simp [hm, hfl2]
set_option maxRecDepth 100000 in
theorem run_build_wrD (i : Nat) (s : Sec) (hs : s.length = 64) (w : World) : (Instr.build 98 #[(0, .int .i64 i), (1, .agg (secA s))]).run Try.prog w = .ok (.agg (wrC1 (i, s)).toArray) w :=
  run_build_two i s hs infoWrD Try.underlying98 (fun w => by kernel_rfl)
set_option maxRecDepth 100000 in
theorem run_build_wrR (i : Nat) (s : Sec) (hs : s.length = 64) (w : World) : (Instr.build 100 #[(0, .int .i64 i), (1, .agg (secA s))]).run Try.prog w = .ok (.agg (wrC1 (i, s)).toArray) w :=
  run_build_two i s hs infoWrR Try.underlying100 (fun w => by kernel_rfl)
set_option maxRecDepth 100000 in
/-- A list of one. -/
theorem run_one {t e : TypeId} {z : Array Value} {m b : Nat} (hu : Try.prog.underlying t = some (.slice e)) (hi : (Try.prog.info? e).map (fun i => (i.zero, i.size, i.bytes)) = some (some (.agg z), m, b)) (_hz : z.size = m) (hm : 0 < m) (hm2 : m ≤ 1000) (cs : Array Value) (hc : cs.size = m) (w : World) : (Instr.buildSlice t 1 #[(0, .agg cs)]).run Try.prog w = .ok (.slice (some ⟨w.heap.size, 0, none⟩) 1 1) (w.alloc (.cells cs e)) := by
  obtain ⟨ti, h1, h2, h3, h4⟩ := infos hi
  have hov := overlay_arr 0 cs ((Array.range m).map (z[· % z.size]!)) (by simp [hc])
  have hov2 : cs.zipIdx.foldl (fun (a : Array Value) (x : Value × Nat) => a.setIfInBounds (0 + x.2) x.1) ((Array.range m).map (z[· % z.size]!)) = cs := by
    apply arr_of_list
    rw [hov, List.drop_eq_nil_of_le (by simp [hc])]
    simp
  have hfl : Instr.fill (fun i => some (i * m, m)) ((Array.range (1 * m)).map (z[· % z.size]!)) [(0, .agg cs)] = some cs := by
    rw [Nat.one_mul]
    simp only [Instr.fill]
    simp [Value.cells, hc]
    simpa [hc] using hov2
  unfold Instr.buildSlice
  simp only [Sem.run_bind, run_underlying hu, Result.andThen_ok]
  have h0 : ¬ (1 * m = 0) := by omega
  have h5 : ¬ (1 * m > 16777216) := by omega
  have h6 : ¬ (m = 0) := by omega
  have h7 : ¬ (16777216 < m) := by omega
  rw [Nat.one_mul] at hfl
  simp [sizeOf, zeroValue, typeInfo, h1, h2, h3, newRow, Value.cells, h6, h7]
  rw [hfl]
  simp
/-- An empty list. -/
theorem run_none {t e : TypeId} {z : Value} {m b : Nat} (hu : Try.prog.underlying t = some (.slice e)) (hi : (Try.prog.info? e).map (fun i => (i.zero, i.size, i.bytes)) = some (some z, m, b)) (w : World) : (Instr.buildSlice t 0 #[]).run Try.prog w = .ok (.slice (some ⟨w.heap.size, 0, none⟩) 0 0) (w.alloc (.cells #[] e)) := by
  obtain ⟨ti, h1, h2, h3, h4⟩ := infos hi
  unfold Instr.buildSlice
  simp only [Sem.run_bind, run_underlying hu, Result.andThen_ok]
  simp [sizeOf, typeInfo, h1, newRow, Instr.fill, Array.range_zero']
theorem ex_build {o : Oper} {a : Act} {w : World} {T : TypeId} {ps : Array (Nat × Operand)} {v : Value} {us : Array (Nat × Value)} (ho : o.op = .build T ps) (hp : (ps.map fun x => (x.1, a.eval x.2)) = us) (hr : (Instr.build T us).run Try.prog w = .ok v w) : (execOp a.eval o).run Try.prog w = .ok (.value v) w := by
  unfold execOp
  simp only [ho]
  rw [show (ps.map fun (i, x) => (i, a.eval x)) = us from hp]
  simp [hr]
theorem ex_slice {o : Oper} {a : Act} {w w' : World} {T : TypeId} {n : Nat} {ps : Array (Nat × Operand)} {v : Value} {us : Array (Nat × Value)} (ho : o.op = .buildSlice T n ps) (hp : (ps.map fun x => (x.1, a.eval x.2)) = us) (hr : (Instr.buildSlice T n us).run Try.prog w = .ok v w') : (execOp a.eval o).run Try.prog w = .ok (.value v) w' := by
  unfold execOp
  simp only [ho]
  rw [show (ps.map fun (i, x) => (i, a.eval x)) = us from hp]
  simp [hr]
theorem ex_append {o : Oper} {a : Act} {w w' : World} {s x : Operand} {t : TypeId} {u v r : Value} (ho : o.op = .call { callee := .builtin .append, args := #[s, x], argTypes := #[t, t] }) (hs : a.eval s = u) (hx : a.eval x = v) (hr : (Builtin.append_ #[t, t] o.type #[u, v]).run Try.prog w = .ok r w') : (execOp a.eval o).run Try.prog w = .ok (.value r) w' := by
  simp [execOp, ho, resolve, invoke, builtin, hs, hx, hr, Result.andThen]
end Go.Proofs.Ytfknjmfkkaoggaa
