/- Slots: bytes of a text; texts in memory. -/
import Derived.Test.YtfknjmfkkaoggaaS21
namespace Go.Proofs.Ytfknjmfkkaoggaa
open Go.RowKit Go.Shelf

/-- Texts in memory. -/
def TxMem (n₀ : Nat) (w : World) (ao : Option Addr) (l : List ByteArray) : Prop := l.length ≤ 9223372036854775807 ∧ ∀ (j : Nat) (c : ByteArray), l[j]? = some c → ∃ b o, ao = some ⟨b, o, none⟩ ∧ b < n₀ ∧ w.cell? ⟨b, o + j, none⟩ = some (.string c)
theorem TxMem.below {n₀ : Nat} {w w' : World} {ao : Option Addr} {l : List ByteArray} (h : TxMem n₀ w ao l) (hb : Below n₀ w w') : TxMem n₀ w' ao l := by
  refine ⟨h.1, fun j c hj => ?_⟩
  obtain ⟨b, o, e1, e2, e3⟩ := h.2 j c hj
  exact ⟨b, o, e1, e2, (hb.cell (p := ⟨b, _, none⟩) e2).trans e3⟩
/-- []byte of a text. -/
theorem str_bytes (w : World) (s : ByteArray) : ∃ W cap, (convert 9 30 (.string s)).run Try.prog w = .ok (.slice (some ⟨w.heap.size, 0, none⟩) s.size cap) W ∧ ByteMem W.heap.size W (some ⟨w.heap.size, 0, none⟩) s.data.toList ∧ Below w.heap.size w W ∧ W.heap.size = w.heap.size + 1 ∧ s.size ≤ cap := by
  refine ⟨_, _, run_bytes_of_string w 9 30 5 s Try.underlying9 Try.underlying30 Try.underlying5, fun j c hj => ⟨w.heap.size, 0, rfl, by simp, ?_⟩, (((Below.refl _ w).drew).alloc (Nat.le_refl _) _), by simp, grownCap_ge _ _ _ _⟩
  have hn : (w.drew.alloc (.cells (bytesRow s (grownCap w s.size 0 5)) 5 ((bytesRow s (grownCap w s.size 0 5)).size, (bytesRow s (grownCap w s.size 0 5)).size + 1))).heap[w.heap.size]? = _ := World.alloc_heap_new w.drew _
  unfold World.cell?
  simp only [hn, Nat.zero_add]
  have hlt := (List.getElem?_eq_some_iff.1 hj).1
  rw [Array.length_toList] at hlt
  unfold bytesRow
  rw [Array.getElem?_append_left (by rw [Array.size_map]; exact hlt), Array.getElem?_map]
  rw [Array.getElem?_toList] at hj
  rw [hj]
  rfl
theorem g_val {ops : Array Oper} {rest : List Oper} {o : Oper} {a : Act} {w w' : World} {Q : Exit → Act → World → Prop} (hw : Region.wanted o (yielded ops a.tmps) = true) (v : Value) (hr : (execOp a.eval o).run Try.prog w = .ok (.value v) w') (h : wpList Try.prog ops Q rest (a.put o.dst v) w') : wpList Try.prog ops Q (o :: rest) a w :=
  BigFrame.wpList_want hw fun K hK => by
    unfold Oper.wp
    rw [hr]
    exact hK _ _ h
theorem sec_guard' {T : TypeId} (hT : Try.prog.eqGuardType Try.prog.depth T = false) (x y : Operand) (a b : Array Value) (w : World) : (eqGuard .neq T x y (.agg a) (.agg b)).run Try.prog w = .ok () w := by
  unfold eqGuard
  simp [hT, go_sem]
theorem ex_neq {o : Oper} {a : Act} {w : World} {T T' : TypeId} {x y : Operand} {u v : Array Value} {r : Value} (ho : o.op = .binOp .neq T x y T') (hx : a.eval x = .agg u) (hy : a.eval y = .agg v) (hT : Try.prog.eqGuardType Try.prog.depth T = false) (hr : (binOp .neq T (.agg u) (.agg v)).run Try.prog w = .ok r w) : (execOp a.eval o).run Try.prog w = .ok (.value r) w := by
  unfold execOp
  simp only [ho, hx, hy]
  simp only [Sem.run_bind, sec_guard' hT, hr, Result.andThen_ok, Sem.run_pure]
/-- A sector is laid in a block of its own. -/
theorem sec_new (w : World) (s : Sec) (hs : s.length = 64) : ∃ W, (Instr.storeAt 59 (.pointer (some ⟨w.heap.size, 0, none⟩)) (.agg (secA s))).run Try.prog (w.alloc (.cells (Lib.byteCells sec0).toArray 59)) = .ok () W ∧ W.heap[w.heap.size]? = some (.cells (secA s) 59) ∧ Below w.heap.size w W ∧ W.heap.size = w.heap.size + 1 :=
  ⟨_, run_store_new (P := Try.prog) infoSecD w (cs := secA s) (c := secA sec0) (by rw [secA_size, hs]) rfl (secA_one s), World.alloc_heap_new w _, (Below.refl _ w).alloc (Nat.le_refl _) _, by simp⟩
/-- Load, as a text. -/
theorem load_str {base q k : Nat} {t : V} {l : List UInt8} {sz p : Nat} {d : Dv} {vl vw : Value} {w : World} (h : Sto base q k t l sz p d vl vw w) (u : ByteArray) (hu : ⟨l.toArray⟩ = u) :
    Calls Try.prog 20 #[.pointer (some ⟨q, 0, none⟩)] w fun e w' => ∃ v, e = .returned v ∧ (convert 30 9 v).run Try.prog w' = .ok (.string u) w' ∧ Below w.heap.size w w' := by
  refine (load_sto h).mono ?_
  rintro e w' ⟨ga, gc, rfl, o, b⟩
  exact ⟨_, rfl, by rw [← hu]; exact conv_own o, b⟩
theorem size_toList (s : ByteArray) : s.data.toList.length = s.size := by rw [Array.length_toList]; rfl
theorem mk_toList (s : ByteArray) : (⟨s.data.toList.toArray⟩ : ByteArray) = s := by rw [Array.toArray_toList]
end Go.Proofs.Ytfknjmfkkaoggaa
