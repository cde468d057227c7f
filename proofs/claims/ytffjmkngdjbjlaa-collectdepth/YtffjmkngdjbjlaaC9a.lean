/- Parts of edges; a list of parts. -/
import Derived.Test.YtffjmkngdjbjlaaC8
import Derived.Test.YtffjmkngdjbjlaaRG
namespace Go.Proofs.Ytffjmkngdjbjlaa
open Go.RowKit Go.Shelf

theorem EdMem.take {n₀ : Nat} {w : World} {ao : Option Addr} {l : List Pr} (h : EdMem n₀ w ao l) (k : Nat) : EdMem n₀ w ao (l.take k) :=
  ⟨by have := h.1; rw [List.length_take]; omega, fun i x hx => h.2 i x (by rw [List.getElem?_take] at hx; split at hx; exact hx; cases hx)⟩
def offE (ao : Option Addr) (j cap : Nat) : Option Addr := if cap = j then ao else ao.map (·.add (j * 2))
theorem EdMem.drop {n₀ : Nat} {w : World} {ao : Option Addr} {l : List Pr} (h : EdMem n₀ w ao l) (j : Nat) {cap : Nat} (hc : l.length ≤ cap) : EdMem n₀ w (offE ao j cap) (l.drop j) := by
  refine ⟨by have := h.1; rw [List.length_drop]; omega, fun i x hx => ?_⟩
  rw [List.getElem?_drop] at hx
  have hlt := (List.getElem?_eq_some_iff.1 hx).1
  obtain ⟨b, off, e, hb, c0, c1⟩ := h.2 _ x hx
  refine ⟨b, off + j * 2, ?_, hb, ?_, ?_⟩
  · unfold offE
    rw [if_neg (by omega), e]
    simp [Addr.add]
  · rw [← c0]
    congr 2
    omega
  · rw [← c1]
    congr 2
    omega
theorem size47 (w : World) : (Go.sizeOf 71).run Try.prog w = .ok 2 w := by
  obtain ⟨ti, t1, t2, t3, t4⟩ := info_parts infoEd
  simp [Go.sizeOf, typeInfo, t1, t3]
theorem elemE : Try.prog.elem 50 = 71 := by kernel_rfl
theorem ex_lo {o : Oper} {a : Act} {w : World} {x y : Operand} {ao : Option Addr} {m cap k : Nat} (ho : o.op = .slice 50 x none (some y) none) (hx : a.eval x = .slice ao m cap) (hy : a.eval y = .int .i64 k) (hk : k ≤ cap) : (execOp a.eval o).run Try.prog w = .ok (.value (.slice (offE ao 0 cap) k cap)) w := by
  have hu : Try.prog.underlying 50 = some (.slice (Try.prog.elem 50)) := by rw [elemE]; exact undE
  have h1 := run_slice_h (P := Try.prog) (w := w) 50 ao m cap hu .i64 k (by omega) (by omega)
  rw [elemE, size47] at h1
  have h2 := run_sliceAt_slice (P := Try.prog) (w := w) 50 (.slice ao m cap) none (some (.int .i64 k)) none hu
  rw [h1] at h2
  unfold execOp
  simp [ho, hx, hy, h2, Result.andThen, sliced, offE]
theorem ex_hi {o : Oper} {a : Act} {w : World} {x y : Operand} {ao : Option Addr} {m cap k : Nat} (ho : o.op = .slice 50 x (some y) none none) (hx : a.eval x = .slice ao m cap) (hy : a.eval y = .int .i64 k) (hk : k ≤ m) : (execOp a.eval o).run Try.prog w = .ok (.value (.slice (offE ao k cap) (m - k) (cap - k))) w := by
  have hu : Try.prog.underlying 50 = some (.slice (Try.prog.elem 50)) := by rw [elemE]; exact undE
  have h1 := run_slice_l (P := Try.prog) (w := w) 50 ao m cap hu .i64 k (by omega) (by omega)
  rw [elemE, size47] at h1
  have h2 := run_sliceAt_slice (P := Try.prog) (w := w) 50 (.slice ao m cap) (some (.int .i64 k)) none none hu
  rw [h1] at h2
  unfold execOp
  simp [ho, hx, hy, h2, Result.andThen, sliced, offE]
theorem infoS : (Try.prog.info? 50).map (fun i => (i.zero, i.size, i.bytes)) = some (some (.slice none 0 0), 1, 24) := by kernel_rfl
theorem cells1 {v : Value} (h : v.oneCell' = true) : v.cells = #[v] := by
  cases v <;> first | rfl | cases h
theorem run_two (a1 a2 : Option Addr) (n1 c1 n2 c2 : Nat) (w : World) : (Instr.buildSlice 96 2 #[(0, .slice a1 n1 c1), (1, .slice a2 n2 c2)]).run Try.prog w = .ok (.slice (some ⟨w.heap.size, 0, none⟩) 2 2) (w.alloc (.cells #[.slice a1 n1 c1, .slice a2 n2 c2] 50)) := by
  kernel_rfl
theorem run_three (a1 a2 a3 : Option Addr) (n1 c1 n2 c2 n3 c3 : Nat) (w : World) : (Instr.buildSlice 96 3 #[(0, .slice a1 n1 c1), (1, .slice a2 n2 c2), (2, .slice a3 n3 c3)]).run Try.prog w = .ok (.slice (some ⟨w.heap.size, 0, none⟩) 3 3) (w.alloc (.cells #[.slice a1 n1 c1, .slice a2 n2 c2, .slice a3 n3 c3] 50)) := by
  kernel_rfl
theorem run_edge (s t : ByteArray) (w : World) : (Instr.build 71 #[(0, .string s), (1, .string t)]).run Try.prog w = .ok (.agg #[.string s, .string t]) w := by
  kernel_rfl
theorem run_one (s t : ByteArray) (w : World) : (Instr.buildSlice 50 1 #[(0, .agg #[.string s, .string t])]).run Try.prog w = .ok (.slice (some ⟨w.heap.size, 0, none⟩) 1 1) (w.alloc (.cells #[.string s, .string t] 71)) := by
  kernel_rfl
theorem ex_slice {o : Oper} {a : Act} {w w' : World} {T : TypeId} {n : Nat} {ps : Array (Nat × Operand)} {v : Value} {us : Array (Nat × Value)} (ho : o.op = .buildSlice T n ps) (hp : (ps.map fun x => (x.1, a.eval x.2)) = us) (hr : (Instr.buildSlice T n us).run Try.prog w = .ok v w') : (execOp a.eval o).run Try.prog w = .ok (.value v) w' := by
  unfold execOp
  simp only [ho]
  rw [show (ps.map fun (i, x) => (i, a.eval x)) = us from hp]
  simp [hr]
theorem ex_build {o : Oper} {a : Act} {w : World} {T : TypeId} {ps : Array (Nat × Operand)} {v : Value} {us : Array (Nat × Value)} (ho : o.op = .build T ps) (hp : (ps.map fun x => (x.1, a.eval x.2)) = us) (hr : (Instr.build T us).run Try.prog w = .ok v w) : (execOp a.eval o).run Try.prog w = .ok (.value v) w := by
  unfold execOp
  simp only [ho]
  rw [show (ps.map fun (i, x) => (i, a.eval x)) = us from hp]
  simp [hr]
theorem ex_any {o : Oper} {a : Act} {w : World} {s : Operand} {v : Value} (ho : o.op = .assign s) (hs : a.eval s = v) : (execOp a.eval o).run Try.prog w = .ok (.value v) w := by
  unfold execOp
  simp [ho, hs]
theorem ex_add {o : Oper} {a : Act} {w : World} {x y : Operand} {i j : Int} (ho : o.op = .binOp .add 3 x y 3) (hx : a.eval x = .int .i64 i) (hy : a.eval y = .int .i64 j) : (execOp a.eval o).run Try.prog w = .ok (.value (.int .i64 (IntKind.i64.wrap (i + j)))) w := by
  unfold execOp
  simp only [ho, hx, hy]
  kernel_rfl
end Go.Proofs.Ytffjmkngdjbjlaa
