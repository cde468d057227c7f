/- Whole requests and tokens are stored. -/
import Derived.Test.YtimhkgpjfppkmaaDoorRq9
namespace Go.Proofs.YtimhkgpjfppkmaaDoor
open Go.RowKit Go.Shelf

def setRq (w : World) (b : Nat) (r : Rq) : World := (((((((((((w.setCell ⟨b, 0, none⟩ (.int .u8 r.verb)).setCell ⟨b, 1, none⟩ (.string r.node)).setCell ⟨b, 2, none⟩ (.string r.item)).setCell ⟨b, 3, none⟩ (.string r.jid)).setCell ⟨b, 4, none⟩ (.int .u8 r.role)).setCell ⟨b, 5, none⟩ (.int .u8 r.acc)).setCell ⟨b, 6, none⟩ (.int .i64 r.max)).setCell ⟨b, 7, none⟩ (.int .i64 r.depth)).setCell ⟨b, 8, none⟩ (.string r.parent)).setCell ⟨b, 9, none⟩ (.bool r.coll)).setCell ⟨b, 10, none⟩ (.string r.text))
theorem setRq_heap {w : World} {b : Nat} {u0 u1 u2 u3 u4 u5 u6 u7 u8 u9 u10 : Value} (r : Rq) (h : w.heap[b]? = some (.cells #[u0, u1, u2, u3, u4, u5, u6, u7, u8, u9, u10] 26)) : (setRq w b r).heap[b]? = some (.cells (rqA r) 26) := by
  have h0 := at_setQ (i := 0) (v := .int .u8 r.verb) h
  simp only [List.setIfInBounds_toArray, List.set_cons_zero] at h0
  have h1 := at_setQ (i := 1) (v := .string r.node) h0
  simp only [List.setIfInBounds_toArray, List.set_cons_zero, List.set_cons_succ] at h1
  have h2 := at_setQ (i := 2) (v := .string r.item) h1
  simp only [List.setIfInBounds_toArray, List.set_cons_zero, List.set_cons_succ] at h2
  have h3 := at_setQ (i := 3) (v := .string r.jid) h2
  simp only [List.setIfInBounds_toArray, List.set_cons_zero, List.set_cons_succ] at h3
  have h4 := at_setQ (i := 4) (v := .int .u8 r.role) h3
  simp only [List.setIfInBounds_toArray, List.set_cons_zero, List.set_cons_succ] at h4
  have h5 := at_setQ (i := 5) (v := .int .u8 r.acc) h4
  simp only [List.setIfInBounds_toArray, List.set_cons_zero, List.set_cons_succ] at h5
  have h6 := at_setQ (i := 6) (v := .int .i64 r.max) h5
  simp only [List.setIfInBounds_toArray, List.set_cons_zero, List.set_cons_succ] at h6
  have h7 := at_setQ (i := 7) (v := .int .i64 r.depth) h6
  simp only [List.setIfInBounds_toArray, List.set_cons_zero, List.set_cons_succ] at h7
  have h8 := at_setQ (i := 8) (v := .string r.parent) h7
  simp only [List.setIfInBounds_toArray, List.set_cons_zero, List.set_cons_succ] at h8
  have h9 := at_setQ (i := 9) (v := .bool r.coll) h8
  simp only [List.setIfInBounds_toArray, List.set_cons_zero, List.set_cons_succ] at h9
  have h10 := at_setQ (i := 10) (v := .string r.text) h9
  simp only [List.setIfInBounds_toArray, List.set_cons_zero, List.set_cons_succ] at h10
  exact h10
theorem setRq_far {w : World} {b : Nat} (r : Rq) (k : Nat) (hk : k ≠ b) : (setRq w b r).heap[k]? = w.heap[k]? := by
  unfold setRq
  rw [Below.heap_setCell _ _ _ _ (show k ≠ b from hk), Below.heap_setCell _ _ _ _ (show k ≠ b from hk), Below.heap_setCell _ _ _ _ (show k ≠ b from hk), Below.heap_setCell _ _ _ _ (show k ≠ b from hk), Below.heap_setCell _ _ _ _ (show k ≠ b from hk), Below.heap_setCell _ _ _ _ (show k ≠ b from hk), Below.heap_setCell _ _ _ _ (show k ≠ b from hk), Below.heap_setCell _ _ _ _ (show k ≠ b from hk), Below.heap_setCell _ _ _ _ (show k ≠ b from hk), Below.heap_setCell _ _ _ _ (show k ≠ b from hk), Below.heap_setCell _ _ _ _ (show k ≠ b from hk)]
theorem setRq_size {w : World} {b : Nat} (r : Rq) : (setRq w b r).heap.size = w.heap.size := by
  unfold setRq
  simp
theorem setRq_below {B : Nat} {w0 w : World} {b : Nat} (r : Rq) (h : Below B w0 w) (hb : B ≤ b) : Below B w0 (setRq w b r) := (((((((((((h).setCell (p := ⟨b, 0, none⟩) hb _).setCell (p := ⟨b, 1, none⟩) hb _).setCell (p := ⟨b, 2, none⟩) hb _).setCell (p := ⟨b, 3, none⟩) hb _).setCell (p := ⟨b, 4, none⟩) hb _).setCell (p := ⟨b, 5, none⟩) hb _).setCell (p := ⟨b, 6, none⟩) hb _).setCell (p := ⟨b, 7, none⟩) hb _).setCell (p := ⟨b, 8, none⟩) hb _).setCell (p := ⟨b, 9, none⟩) hb _).setCell (p := ⟨b, 10, none⟩) hb _
set_option maxRecDepth 100000 in
set_option maxHeartbeats 2000000 in
theorem setRq_run {w : World} {b : Nat} {u0 u1 u2 u3 u4 u5 u6 u7 u8 u9 u10 : Value} (r : Rq) (h : w.heap[b]? = some (.cells #[u0, u1, u2, u3, u4, u5, u6, u7, u8, u9, u10] 26)) : (Instr.storeAt 26 (.pointer (some ⟨b, 0, none⟩)) (.agg (rqA r))).run Tryd.prog w = .ok () (setRq w b r) := by
  have z0 : w.cell? ⟨b, 0, none⟩ = some u0 := by simp [World.cell?, h]
  have y0 : w.frozen? ⟨b, 0, none⟩ = false := by simp [World.frozen?, h]
  have z1 : w.cell? ⟨b, 1, none⟩ = some u1 := by simp [World.cell?, h]
  have y1 : w.frozen? ⟨b, 1, none⟩ = false := by simp [World.frozen?, h]
  have z2 : w.cell? ⟨b, 2, none⟩ = some u2 := by simp [World.cell?, h]
  have y2 : w.frozen? ⟨b, 2, none⟩ = false := by simp [World.frozen?, h]
  have z3 : w.cell? ⟨b, 3, none⟩ = some u3 := by simp [World.cell?, h]
  have y3 : w.frozen? ⟨b, 3, none⟩ = false := by simp [World.frozen?, h]
  have z4 : w.cell? ⟨b, 4, none⟩ = some u4 := by simp [World.cell?, h]
  have y4 : w.frozen? ⟨b, 4, none⟩ = false := by simp [World.frozen?, h]
  have z5 : w.cell? ⟨b, 5, none⟩ = some u5 := by simp [World.cell?, h]
  have y5 : w.frozen? ⟨b, 5, none⟩ = false := by simp [World.frozen?, h]
  have z6 : w.cell? ⟨b, 6, none⟩ = some u6 := by simp [World.cell?, h]
  have y6 : w.frozen? ⟨b, 6, none⟩ = false := by simp [World.frozen?, h]
  have z7 : w.cell? ⟨b, 7, none⟩ = some u7 := by simp [World.cell?, h]
  have y7 : w.frozen? ⟨b, 7, none⟩ = false := by simp [World.frozen?, h]
  have z8 : w.cell? ⟨b, 8, none⟩ = some u8 := by simp [World.cell?, h]
  have y8 : w.frozen? ⟨b, 8, none⟩ = false := by simp [World.frozen?, h]
  have z9 : w.cell? ⟨b, 9, none⟩ = some u9 := by simp [World.cell?, h]
  have y9 : w.frozen? ⟨b, 9, none⟩ = false := by simp [World.frozen?, h]
  have z10 : w.cell? ⟨b, 10, none⟩ = some u10 := by simp [World.cell?, h]
  have y10 : w.frozen? ⟨b, 10, none⟩ = false := by simp [World.frozen?, h]
  unfold setRq rqA
  go_simp
def setTk (w : World) (b : Nat) (t : Tok) (aa : Option Addr) (ac : Nat) : World := ((((w.setCell ⟨b, 0, none⟩ (.int .u8 t.kind)).setCell ⟨b, 1, none⟩ (.string t.name)).setCell ⟨b, 2, none⟩ (.slice aa t.attrs.length ac)).setCell ⟨b, 3, none⟩ (.string t.text))
theorem setTk_heap {w : World} {b : Nat} {u0 u1 u2 u3 : Value} (t : Tok) (aa : Option Addr) (ac : Nat) (h : w.heap[b]? = some (.cells #[u0, u1, u2, u3] 46)) : (setTk w b t aa ac).heap[b]? = some (.cells #[.int .u8 t.kind, .string t.name, .slice aa t.attrs.length ac, .string t.text] 46) := by
  have h0 := at_setQ (i := 0) (v := .int .u8 t.kind) h
  simp only [List.setIfInBounds_toArray, List.set_cons_zero] at h0
  have h1 := at_setQ (i := 1) (v := .string t.name) h0
  simp only [List.setIfInBounds_toArray, List.set_cons_zero, List.set_cons_succ] at h1
  have h2 := at_setQ (i := 2) (v := .slice aa t.attrs.length ac) h1
  simp only [List.setIfInBounds_toArray, List.set_cons_zero, List.set_cons_succ] at h2
  have h3 := at_setQ (i := 3) (v := .string t.text) h2
  simp only [List.setIfInBounds_toArray, List.set_cons_zero, List.set_cons_succ] at h3
  exact h3
theorem setTk_far {w : World} {b : Nat} (t : Tok) (aa : Option Addr) (ac : Nat) (k : Nat) (hk : k ≠ b) : (setTk w b t aa ac).heap[k]? = w.heap[k]? := by
  unfold setTk
  rw [Below.heap_setCell _ _ _ _ (show k ≠ b from hk), Below.heap_setCell _ _ _ _ (show k ≠ b from hk), Below.heap_setCell _ _ _ _ (show k ≠ b from hk), Below.heap_setCell _ _ _ _ (show k ≠ b from hk)]
theorem setTk_size {w : World} {b : Nat} (t : Tok) (aa : Option Addr) (ac : Nat) : (setTk w b t aa ac).heap.size = w.heap.size := by
  unfold setTk
  simp
theorem setTk_below {B : Nat} {w0 w : World} {b : Nat} (t : Tok) (aa : Option Addr) (ac : Nat) (h : Below B w0 w) (hb : B ≤ b) : Below B w0 (setTk w b t aa ac) := ((((h).setCell (p := ⟨b, 0, none⟩) hb _).setCell (p := ⟨b, 1, none⟩) hb _).setCell (p := ⟨b, 2, none⟩) hb _).setCell (p := ⟨b, 3, none⟩) hb _
set_option maxRecDepth 100000 in
set_option maxHeartbeats 2000000 in
theorem setTk_run {w : World} {b : Nat} {u0 u1 u2 u3 : Value} (t : Tok) (aa : Option Addr) (ac : Nat) (h : w.heap[b]? = some (.cells #[u0, u1, u2, u3] 46)) : (Instr.storeAt 46 (.pointer (some ⟨b, 0, none⟩)) (.agg #[.int .u8 t.kind, .string t.name, .slice aa t.attrs.length ac, .string t.text])).run Tryd.prog w = .ok () (setTk w b t aa ac) := by
  have z0 : w.cell? ⟨b, 0, none⟩ = some u0 := by simp [World.cell?, h]
  have y0 : w.frozen? ⟨b, 0, none⟩ = false := by simp [World.frozen?, h]
  have z1 : w.cell? ⟨b, 1, none⟩ = some u1 := by simp [World.cell?, h]
  have y1 : w.frozen? ⟨b, 1, none⟩ = false := by simp [World.frozen?, h]
  have z2 : w.cell? ⟨b, 2, none⟩ = some u2 := by simp [World.cell?, h]
  have y2 : w.frozen? ⟨b, 2, none⟩ = false := by simp [World.frozen?, h]
  have z3 : w.cell? ⟨b, 3, none⟩ = some u3 := by simp [World.cell?, h]
  have y3 : w.frozen? ⟨b, 3, none⟩ = false := by simp [World.frozen?, h]
  unfold setTk
  go_simp
theorem load_tok {w : World} {b off : Nat} {t : Tok} {aa : Option Addr} {ac : Nat} (h0 : w.cell? ⟨b, off, none⟩ = some (.int .u8 t.kind)) (h1 : w.cell? ⟨b, off + 1, none⟩ = some (.string t.name)) (h2 : w.cell? ⟨b, off + 2, none⟩ = some (.slice aa t.attrs.length ac)) (h3 : w.cell? ⟨b, off + 3, none⟩ = some (.string t.text)) : (Instr.loadAt 46 (.pointer (some ⟨b, off, none⟩))).run Tryd.prog w = .ok (.agg #[.int .u8 t.kind, .string t.name, .slice aa t.attrs.length ac, .string t.text]) w := by
  have h0' : w.cell? ⟨b, off + 0, none⟩ = some (.int .u8 t.kind) := h0
  exact run_loadAt_mid (P := Tryd.prog) w b off 46 [.int .u8 t.kind, .string t.name, .slice aa t.attrs.length ac, .string t.text] _ (fun j v hv => by
    match j, hv with
    | 0, hv => simp at hv; subst hv; exact h0'
    | 1, hv => simp at hv; subst hv; exact h1
    | 2, hv => simp at hv; subst hv; exact h2
    | 3, hv => simp at hv; subst hv; exact h3
    | j + 4, hv => simp at hv) Tryd.underlying46 rfl (by kernel_rfl)
theorem ex_idxTok {o : Oper} {a : Act} {w : World} {x y : Operand} {b off m cap k : Nat} (ho : o.op = .indexAddr 27 x y) (hx : a.eval x = .slice (some ⟨b, off, none⟩) m cap) (hy : a.eval y = .int .i64 k) (hk : k < m) : (execOp a.eval o).run Tryd.prog w = .ok (.value (.pointer (some ⟨b, off + k * 4, none⟩))) w := by
  have h0 : ¬ ((k : Int) < 0) := by omega
  have h1 : (k : Int) < m := by omega
  unfold execOp
  simp only [ho, hx, hy]
  go_simp
def zeroRq : Rq := ⟨0, ⟨#[]⟩, ⟨#[]⟩, ⟨#[]⟩, 0, 0, 0, 0, ⟨#[]⟩, false, ⟨#[]⟩⟩
end Go.Proofs.YtimhkgpjfppkmaaDoor
