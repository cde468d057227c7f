/- Steps of a walk that move many cells at once. Package fault's names: known, Name, Type, Parse. Stanzas: Error, Result. -/
import Derived.RangeFuncNested
import Derived.RangeFuncLeaves
import Derived.OwnWalkIn
import Derived.WalkKit
import Derived.Test.YtpknifioflagaaaDoorXB
import Derived.Deep.MidRow
import Derived.Deep.WholeRow
import Derived.Test.YtpknifioflagaaaDoorXA
import Derived.Laws.Rows
import Derived.LoopTactic
import Derived.Test.YtpknifioflagaaaDoorXI
namespace Go.Proofs.YtpknifioflagaaaDoor
open Go Go.RowKit
variable {P : Program}

/-- One operation whose run is known, at the head of a list. -/
theorem l_val {ops : Array Oper} {rest : List Oper} {o : Oper} {a : Act} {w w' : World} {Q : Exit → Act → World → Prop} (hg : o.guard = none) (v : Value) (hr : (execOp a.eval o).run P w = .ok (.value v) w') (h : wpList P ops Q rest (a.put o.dst v) w') : wpList P ops Q (o :: rest) a w :=
  wpList_plain hg fun K hK => by
    unfold Oper.wp
    rw [hr]
    exact hK _ _ h
theorem l_skip {ops : Array Oper} {rest : List Oper} {o : Oper} {a : Act} {w w' : World} {Q : Exit → Act → World → Prop} (hg : o.guard = none) (hr : (execOp a.eval o).run P w = .ok .skip w') (h : wpList P ops Q rest (a.put o.dst undef) w') : wpList P ops Q (o :: rest) a w :=
  wpList_plain hg fun K hK => by
    unfold Oper.wp
    rw [hr]
    exact hK _ _ h
variable {F : Fence} {n : Nat}
theorem i_val {ops : Array Oper} {rest : List Oper} {o : Oper} {a : Act} {w w' : World} {Q : Exit → Act → World → Prop} (hg : o.guard = none) (hc : ∀ c, o.op ≠ .call c) (hd : ∀ c, o.op ≠ .defer c) (v : Value) (hr : (execOp a.eval o).run P w = .ok (.value v) w') (h : wpListIn F n P ops Q rest (a.put o.dst v) w') : wpListIn F n P ops Q (o :: rest) a w :=
  wpListIn_plain hg fun K hK => by
    refine ⟨fun f hf => ?_, ?_⟩
    · unfold Oper.about at hf
      split at hf
      · exact absurd (by assumption) (hc _)
      · cases hf
    · rw [Oper.semAt_plain F _ _ hd, hr]
      exact hK _ _ h
theorem i_skip {ops : Array Oper} {rest : List Oper} {o : Oper} {a : Act} {w w' : World} {Q : Exit → Act → World → Prop} (hg : o.guard = none) (hc : ∀ c, o.op ≠ .call c) (hd : ∀ c, o.op ≠ .defer c) (hr : (execOp a.eval o).run P w = .ok .skip w') (h : wpListIn F n P ops Q rest (a.put o.dst undef) w') : wpListIn F n P ops Q (o :: rest) a w :=
  wpListIn_plain hg fun K hK => by
    refine ⟨fun f hf => ?_, ?_⟩
    · unfold Oper.about at hf
      split at hf
      · exact absurd (by assumption) (hc _)
      · cases hf
    · rw [Oper.semAt_plain F _ _ hd, hr]
      exact hK _ _ h

section
variable {ops : Array Oper} {rest : List Oper} {o : Oper} {a : Act} {w w' : World} {Q : Exit → Act → World → Prop}
theorem ex_load {ty : TypeId} {x : Operand} {v : Value} {p : Addr} (ho : o.op = .load ty x) (hx : a.eval x = .pointer (some p)) (hr : (Instr.loadAt ty (.pointer (some p))).run P w = .ok v w') : (execOp a.eval o).run P w = .ok (.value v) w' := by
  unfold execOp
  simp [ho, hx, hr]
theorem ex_store {ty : TypeId} {x y : Operand} {u : Value} {p : Addr} (ho : o.op = .store ty x y) (hx : a.eval x = .pointer (some p)) (hy : a.eval y = u) (hr : (Instr.storeAt ty (.pointer (some p)) u).run P w = .ok () w') : (execOp a.eval o).run P w = .ok .skip w' := by
  unfold execOp
  simp [ho, hx, hy, hr]
theorem ex_alloc {ty : TypeId} {v : Value} (ho : o.op = .alloc ty) (hr : (Instr.alloc ty true (.tuple #[])).run P w = .ok v w') : (execOp a.eval o).run P w = .ok (.value v) w' := by
  unfold execOp
  simp [ho, hr]
theorem ex_box {ty : TypeId} {x : Operand} {u v : Value} (ho : o.op = .box ty x) (hx : a.eval x = u) (hr : (Instr.box ty u).run P w = .ok v w') : (execOp a.eval o).run P w = .ok (.value v) w' := by
  unfold execOp
  simp [ho, hx, hr]
/-- A long variable is loaded. -/
theorem l_load (ty : TypeId) {x : Operand} {v : Value} {p : Addr} (hr : (Instr.loadAt ty (.pointer (some p))).run P w = .ok v w) (hg : o.guard = none) (ho : o.op = .load ty x) (hx : a.eval x = .pointer (some p)) (h : wpList P ops Q rest (a.put o.dst v) w) : wpList P ops Q (o :: rest) a w := l_val hg v (ex_load ho hx hr) h
theorem i_load (ty : TypeId) {x : Operand} {v : Value} {p : Addr} (hr : (Instr.loadAt ty (.pointer (some p))).run P w = .ok v w) (hg : o.guard = none) (ho : o.op = .load ty x) (hx : a.eval x = .pointer (some p)) (h : wpListIn F n P ops Q rest (a.put o.dst v) w) : wpListIn F n P ops Q (o :: rest) a w := i_val hg (fun c e => by rw [ho] at e; cases e) (fun c e => by rw [ho] at e; cases e) v (ex_load ho hx hr) h
/-- A long variable is stored. -/
theorem l_store (ty : TypeId) {x y : Operand} {u : Value} {p : Addr} (hr : (Instr.storeAt ty (.pointer (some p)) u).run P w = .ok () w') (hg : o.guard = none) (ho : o.op = .store ty x y) (hx : a.eval x = .pointer (some p)) (hy : a.eval y = u) (h : wpList P ops Q rest (a.put o.dst undef) w') : wpList P ops Q (o :: rest) a w := l_skip hg (ex_store ho hx hy hr) h
theorem i_store (ty : TypeId) {x y : Operand} {u : Value} {p : Addr} (hr : (Instr.storeAt ty (.pointer (some p)) u).run P w = .ok () w') (hg : o.guard = none) (ho : o.op = .store ty x y) (hx : a.eval x = .pointer (some p)) (hy : a.eval y = u) (h : wpListIn F n P ops Q rest (a.put o.dst undef) w') : wpListIn F n P ops Q (o :: rest) a w := i_skip hg (fun c e => by rw [ho] at e; cases e) (fun c e => by rw [ho] at e; cases e) (ex_store ho hx hy hr) h
theorem run_alloc_long {ty : TypeId} {cs : Array Value} {m b : Nat} (hi : (P.info? ty).map (fun i => (i.zero, i.size, i.bytes)) = some (some (.agg cs), m, b)) (w : World) : (Instr.alloc ty true (.tuple #[])).run P w = .ok (.pointer (some ⟨w.heap.size, 0, none⟩)) (w.alloc (.cells cs ty)) := by
  cases hq : P.info? ty with
  | none => simp [hq] at hi
  | some i =>
    simp [hq] at hi
    simp [Instr.alloc, zeroValue, typeInfo, hq, hi.1, newVar, newRow, Value.cells]
theorem run_box_long (ty : TypeId) (cs : Array Value) (w : World) : (Instr.box ty (.agg cs)).run P w = .ok (.pointer (some ⟨w.heap.size, 0, none⟩)) (w.alloc (.cells cs ty)) := by
  simp [Instr.box, newVar, newRow, Value.cells]
/-- A long variable is made, with its zero. -/
theorem l_alloc (ty : TypeId) {cs : Array Value} {m b : Nat} (hi : (P.info? ty).map (fun i => (i.zero, i.size, i.bytes)) = some (some (.agg cs), m, b)) (hg : o.guard = none) (ho : o.op = .alloc ty) (h : wpList P ops Q rest (a.put o.dst (.pointer (some ⟨w.heap.size, 0, none⟩))) (w.alloc (.cells cs ty))) : wpList P ops Q (o :: rest) a w := l_val hg _ (ex_alloc ho (run_alloc_long hi w)) h
theorem i_alloc (ty : TypeId) {cs : Array Value} {m b : Nat} (hi : (P.info? ty).map (fun i => (i.zero, i.size, i.bytes)) = some (some (.agg cs), m, b)) (hg : o.guard = none) (ho : o.op = .alloc ty) (h : wpListIn F n P ops Q rest (a.put o.dst (.pointer (some ⟨w.heap.size, 0, none⟩))) (w.alloc (.cells cs ty))) : wpListIn F n P ops Q (o :: rest) a w := i_val hg (fun c e => by rw [ho] at e; cases e) (fun c e => by rw [ho] at e; cases e) _ (ex_alloc ho (run_alloc_long hi w)) h
/-- What is stored in a block that was made last stands there. -/
theorem run_store_new {ty : TypeId} {cs c : Array Value} {v : Value} {m b : Nat} (hi : (P.info? ty).map (fun i => (i.zero, i.size, i.bytes)) = some (some v, m, b)) (w : World) (h1 : cs.size = m) (h2 : c.size = m) (h3 : cs.all (·.oneCell') = true) : (Instr.storeAt ty (.pointer (some ⟨w.heap.size, 0, none⟩)) (.agg cs)).run P (w.alloc (.cells c ty)) = .ok () (w.alloc (.cells cs ty)) :=
  run_storeAt_new w ty c cs (by cases hq : P.info? ty with | none => simp [hq] at hi | some i => simp [hq] at hi; simp [hi.2.1, h1]) (by omega) h3
/-- What lies in a block from its head on is loaded. -/
theorem run_load_row {ty ty' : TypeId} {cs : Array Value} {v : Value} {m b g : Nat} {d : TypeDesc} (hi : (P.info? ty).map (fun i => (i.zero, i.size, i.bytes)) = some (some v, m, b)) (hu : P.underlying ty = some d) (hd : d.isRow = true) (h1 : cs.size = m) (hw : w.heap[g]? = some (.cells cs ty')) : (Instr.loadAt ty (.pointer (some ⟨g, 0, none⟩))).run P w = .ok (.agg cs) w := by
  have h := run_loadAt_mid (P := P) w g 0 ty cs.toList d (fun j v hv => by
    rw [cell_of_row w g (0 + j) cs ty' (0, 0) hw]
    simpa using hv) hu hd (by cases hq : P.info? ty with | none => simp [hq] at hi | some i => simp [hq] at hi; simp [hi.2.1, h1])
  simpa using h
end
theorem one_bytes (s : List UInt8) : ∀ v ∈ Lib.byteCells s, v.oneCell' = true := by
  intro v hv
  simp [Lib.byteCells] at hv
  obtain ⟨b, _, rfl⟩ := hv
  rfl
end Go.Proofs.YtpknifioflagaaaDoor
namespace Go.Proofs.YtpknifioflagaaaDoor
open Go.RowKit

/-- The names in the table, by the condition's number. -/
def tabN : Nat → ByteArray
  | 1 => ⟨#[98, 97, 100, 45, 114, 101, 113, 117, 101, 115, 116]⟩
  | 2 => ⟨#[99, 111, 110, 102, 108, 105, 99, 116]⟩
  | 3 => ⟨#[102, 111, 114, 98, 105, 100, 100, 101, 110]⟩
  | 4 => ⟨#[105, 116, 101, 109, 45, 110, 111, 116, 45, 102, 111, 117, 110, 100]⟩
  | 5 => ⟨#[106, 105, 100, 45, 109, 97, 108, 102, 111, 114, 109, 101, 100]⟩
  | 6 => ⟨#[110, 111, 116, 45, 97, 108, 108, 111, 119, 101, 100]⟩
  | 7 => ⟨#[110, 111, 116, 45, 97, 117, 116, 104, 111, 114, 105, 122, 101, 100]⟩
  | 8 => ⟨#[114, 101, 115, 111, 117, 114, 99, 101, 45, 99, 111, 110, 115, 116, 114, 97, 105, 110, 116]⟩
  | 9 => ⟨#[115, 101, 114, 118, 105, 99, 101, 45, 117, 110, 97, 118, 97, 105, 108, 97, 98, 108, 101]⟩
  | 10 => ⟨#[117, 110, 101, 120, 112, 101, 99, 116, 101, 100, 45, 114, 101, 113, 117, 101, 115, 116]⟩
  | _ => ⟨#[]⟩
/-- The types in the table. -/
def tabT : Nat → ByteArray
  | 1 => ⟨#[109, 111, 100, 105, 102, 121]⟩
  | 2 => ⟨#[99, 97, 110, 99, 101, 108]⟩
  | 3 => ⟨#[97, 117, 116, 104]⟩
  | 4 => ⟨#[99, 97, 110, 99, 101, 108]⟩
  | 5 => ⟨#[109, 111, 100, 105, 102, 121]⟩
  | 6 => ⟨#[99, 97, 110, 99, 101, 108]⟩
  | 7 => ⟨#[97, 117, 116, 104]⟩
  | 8 => ⟨#[119, 97, 105, 116]⟩
  | 9 => ⟨#[99, 97, 110, 99, 101, 108]⟩
  | 10 => ⟨#[119, 97, 105, 116]⟩
  | _ => ⟨#[]⟩

/-- The table's cells. -/
def tabCs : Array Value := #[.string (tabN 0), .string (tabT 0), .string (tabN 1), .string (tabT 1), .string (tabN 2), .string (tabT 2), .string (tabN 3), .string (tabT 3), .string (tabN 4), .string (tabT 4), .string (tabN 5), .string (tabT 5), .string (tabN 6), .string (tabT 6), .string (tabN 7), .string (tabT 7), .string (tabN 8), .string (tabT 8), .string (tabN 9), .string (tabT 9), .string (tabN 10), .string (tabT 10)]

/-- The table lies as the program's text lays it. -/
def RowsLaid (w : World) : Prop := ∃ t fr, w.heap[0]? = some (.cells tabCs t fr)
theorem RowsLaid.size {w : World} (h : RowsLaid w) : 0 < w.heap.size := by
  obtain ⟨t, fr, h⟩ := h
  exact (Array.getElem?_eq_some_iff.1 h).1
theorem RowsLaid.below {w w' : World} {B : Nat} (h : RowsLaid w) (b : Below B w w') (hB : 0 < B) : RowsLaid w' := by
  obtain ⟨t, fr, h⟩ := h
  exact ⟨t, fr, by rw [b.block _ hB]; exact h⟩
theorem tab_at (k : Nat) (h : k < 11) : tabCs[k * 2]? = some (.string (tabN k)) ∧ tabCs[k * 2 + 1]? = some (.string (tabT k)) := by
  match k, h with
  | 0, _ => exact ⟨rfl, rfl⟩
  | 1, _ => exact ⟨rfl, rfl⟩
  | 2, _ => exact ⟨rfl, rfl⟩
  | 3, _ => exact ⟨rfl, rfl⟩
  | 4, _ => exact ⟨rfl, rfl⟩
  | 5, _ => exact ⟨rfl, rfl⟩
  | 6, _ => exact ⟨rfl, rfl⟩
  | 7, _ => exact ⟨rfl, rfl⟩
  | 8, _ => exact ⟨rfl, rfl⟩
  | 9, _ => exact ⟨rfl, rfl⟩
  | 10, _ => exact ⟨rfl, rfl⟩
theorem RowsLaid.nm {w : World} (h : RowsLaid w) (k : Nat) (hk : k < 11) : w.cell? ⟨0, k * 2, none⟩ = some (.string (tabN k)) := by
  obtain ⟨t, fr, h1⟩ := h
  simp [World.cell?, h1, (tab_at k hk).1]
theorem RowsLaid.ty {w : World} (h : RowsLaid w) (k : Nat) (hk : k < 11) : w.cell? ⟨0, k * 2 + 1, none⟩ = some (.string (tabT k)) := by
  obtain ⟨t, fr, h1⟩ := h
  simp [World.cell?, h1, (tab_at k hk).2]
theorem known_yes (c : Int) (w : World) (h1 : 1 ≤ c) (h2 : c ≤ 10) : Calls Tryd.prog 64 #[.int .i64 c] w fun e w' => e = .returned (.bool true) ∧ w' = w := by
  have h3 : decide (c < 11) = true := by simp; omega
  go_enter Tryd.func64, Tryd.ntmps64
  go_wp2
  go_ret
  exact ⟨rfl, rfl⟩
theorem known_no (c : Int) (w : World) (h : c < 1 ∨ 10 < c) : Calls Tryd.prog 64 #[.int .i64 c] w fun e w' => e = .returned (.bool false) ∧ w' = w := by
  rcases h with h | h
  · have h3 : ¬ 0 < c := by omega
    go_enter Tryd.func64, Tryd.ntmps64
    go_wp2
    go_ret
    exact ⟨rfl, rfl⟩
  · have h3 : decide (c < 11) = false := by simp; omega
    have h4 : 0 < c := by omega
    go_enter Tryd.func64, Tryd.ntmps64
    go_wp2
    go_ret
    exact ⟨rfl, rfl⟩
theorem fname_yes (c : Int) (w : World) (h1 : 1 ≤ c) (h2 : c ≤ 10) (hl : RowsLaid w) : Calls Tryd.prog 46 #[.int .i64 c] w fun e w' => e = .returned (.string (tabN c.toNat)) ∧ w' = w := by
  have hc := hl.nm c.toNat (by omega)
  clear hl
  go_enter Tryd.func46, Tryd.ntmps46
  go_wp2_with (go_at_call 64; refine (known_yes c _ h1 h2).mono ?_; rintro e w' ⟨rfl, rfl⟩)
  go_ret
  exact ⟨rfl, rfl⟩
theorem fname_no (c : Int) (w : World) (h : c < 1 ∨ 10 < c) : Calls Tryd.prog 46 #[.int .i64 c] w fun e w' => e = .returned (.string ⟨#[]⟩) ∧ w' = w := by
  have H : Hid (c < 1 ∨ 10 < c) := h
  clear h
  go_enter Tryd.func46, Tryd.ntmps46
  go_wp2_with (go_at_call 64; refine (known_no c _ H.out).mono ?_; rintro e w' ⟨rfl, rfl⟩)
  go_ret
  exact ⟨rfl, rfl⟩
theorem ftype_yes (c : Int) (w : World) (h1 : 1 ≤ c) (h2 : c ≤ 10) (hl : RowsLaid w) : Calls Tryd.prog 44 #[.int .i64 c] w fun e w' => e = .returned (.string (tabT c.toNat)) ∧ w' = w := by
  have hc := hl.ty c.toNat (by omega)
  clear hl
  go_enter Tryd.func44, Tryd.ntmps44
  go_wp2_with (go_at_call 64; refine (known_yes c _ h1 h2).mono ?_; rintro e w' ⟨rfl, rfl⟩)
  go_ret
  exact ⟨rfl, rfl⟩
theorem ftype_no (c : Int) (w : World) (h : c < 1 ∨ 10 < c) : Calls Tryd.prog 44 #[.int .i64 c] w fun e w' => e = .returned (.string ⟨#[]⟩) ∧ w' = w := by
  have H : Hid (c < 1 ∨ 10 < c) := h
  clear h
  go_enter Tryd.func44, Tryd.ntmps44
  go_wp2_with (go_at_call 64; refine (known_no c _ H.out).mono ?_; rintro e w' ⟨rfl, rfl⟩)
  go_ret
  exact ⟨rfl, rfl⟩
theorem seq_true {a b : ByteArray} (h : a = b) : (a.toList == b.toList) = true := by rw [h]; simp
theorem seq_false {a b : ByteArray} (h : a ≠ b) : (a.toList == b.toList) = false := by
  rw [beq_eq_false_iff_ne]
  intro e
  rw [ByteArray.toList_eq, ByteArray.toList_eq] at e
  apply h
  cases a; cases b
  simp only [ByteArray.mk.injEq]
  exact Array.toList_inj.1 e

/-- What both Parse answer. -/
def ParseEnds (s : ByteArray) (e : Ending) : Prop :=
  (∃ k : Nat, 1 ≤ k ∧ k ≤ 10 ∧ tabN k = s ∧ e = .returned (.tuple #[.int .i64 k, .bool true])) ∨ ((∀ k : Nat, 1 ≤ k → k ≤ 10 → tabN k ≠ s) ∧ e = .returned (.tuple #[.int .i64 0, .bool false]))

theorem size46 : (Tryd.prog.info? 84).map (·.size) = some tabCs.size := by kernel_rfl
theorem index46_0 (w : World) : (Instr.index 84 (.agg tabCs) (.int .i64 0)).run Tryd.prog w = .ok (.agg #[.string (tabN 0), .string (tabT 0)]) w := by kernel_rfl
theorem index46_1 (w : World) : (Instr.index 84 (.agg tabCs) (.int .i64 1)).run Tryd.prog w = .ok (.agg #[.string (tabN 1), .string (tabT 1)]) w := by kernel_rfl
theorem index46_2 (w : World) : (Instr.index 84 (.agg tabCs) (.int .i64 2)).run Tryd.prog w = .ok (.agg #[.string (tabN 2), .string (tabT 2)]) w := by kernel_rfl
theorem index46_3 (w : World) : (Instr.index 84 (.agg tabCs) (.int .i64 3)).run Tryd.prog w = .ok (.agg #[.string (tabN 3), .string (tabT 3)]) w := by kernel_rfl
theorem index46_4 (w : World) : (Instr.index 84 (.agg tabCs) (.int .i64 4)).run Tryd.prog w = .ok (.agg #[.string (tabN 4), .string (tabT 4)]) w := by kernel_rfl
theorem index46_5 (w : World) : (Instr.index 84 (.agg tabCs) (.int .i64 5)).run Tryd.prog w = .ok (.agg #[.string (tabN 5), .string (tabT 5)]) w := by kernel_rfl
theorem index46_6 (w : World) : (Instr.index 84 (.agg tabCs) (.int .i64 6)).run Tryd.prog w = .ok (.agg #[.string (tabN 6), .string (tabT 6)]) w := by kernel_rfl
theorem index46_7 (w : World) : (Instr.index 84 (.agg tabCs) (.int .i64 7)).run Tryd.prog w = .ok (.agg #[.string (tabN 7), .string (tabT 7)]) w := by kernel_rfl
theorem index46_8 (w : World) : (Instr.index 84 (.agg tabCs) (.int .i64 8)).run Tryd.prog w = .ok (.agg #[.string (tabN 8), .string (tabT 8)]) w := by kernel_rfl
theorem index46_9 (w : World) : (Instr.index 84 (.agg tabCs) (.int .i64 9)).run Tryd.prog w = .ok (.agg #[.string (tabN 9), .string (tabT 9)]) w := by kernel_rfl
theorem index46_10 (w : World) : (Instr.index 84 (.agg tabCs) (.int .i64 10)).run Tryd.prog w = .ok (.agg #[.string (tabN 10), .string (tabT 10)]) w := by kernel_rfl
theorem index46 (k : Nat) (h : k < 11) (w : World) : (Instr.index 84 (.agg tabCs) (.int .i64 k)).run Tryd.prog w = .ok (.agg #[.string (tabN k), .string (tabT k)]) w := by
  match k, h with
  | 0, _ => exact index46_0 w
  | 1, _ => exact index46_1 w
  | 2, _ => exact index46_2 w
  | 3, _ => exact index46_3 w
  | 4, _ => exact index46_4 w
  | 5, _ => exact index46_5 w
  | 6, _ => exact index46_6 w
  | 7, _ => exact index46_7 w
  | 8, _ => exact index46_8 w
  | 9, _ => exact index46_9 w
  | 10, _ => exact index46_10 w
theorem parse_any (s : ByteArray) (w : World) (hl : RowsLaid w) : Calls Tryd.prog 42 #[.string s] w fun e w' => ParseEnds s e ∧ Below w.heap.size w w' := by
  obtain ⟨t, fr, hg⟩ := hl
  have Hg : Hid (w.heap[0]? = some (.cells tabCs t fr)) := hg
  clear hg
  go_enter Tryd.func42, Tryd.ntmps42
  go_wp2_with (refine wpList_load_row rfl 84 _ rfl 0 rfl t tabCs fr _ Hg.out Tryd.underlying84 rfl size46 ?_)
  clear Hg
  go_loopw [8] (fun i wr => ∃ n : Nat, n ≤ 11 ∧ i = .int .i64 n ∧ Below w.heap.size w wr ∧ ∀ k : Nat, 1 ≤ k → k < n → tabN k ≠ s) (fun i _ => 11 - (intOf i).toNat)
  case atStart => exact ⟨0, by omega, rfl, Below.refl _ _, fun k h1 h2 => by omega⟩
  case round =>
    obtain ⟨n, h2, rfl, hb, hno⟩ := hrel
    have Hno : Hid (∀ k : Nat, 1 ≤ k → k < n → tabN k ≠ s) := hno
    clear hno
    by_cases hlt : n < 11
    · have hix := index46 n hlt
      have hb' := hb.size
      by_cases h0 : n < 1
      · go_wp2_with (go_at_call 64; refine (known_no n _ (by omega)).mono ?_; rintro e w' ⟨rfl, rfl⟩)
        exact ⟨⟨n + 1, by omega, by go_num, hb.alloc hb' _, fun k a b => by omega⟩, by simp [intOf]; omega⟩
      · by_cases he : tabN n = s
        · have hs := seq_true he
          have He : Hid (tabN n = s) := he
          clear he
          go_wp2_with (go_at_call 64; refine (known_yes n _ (by omega) (by omega)).mono ?_; rintro e w' ⟨rfl, rfl⟩)
          go_ret2
          exact ⟨Or.inl ⟨n, by omega, by omega, He.out, rfl⟩, hb.alloc hb' _⟩
        · have hs := seq_false he
          have He : Hid (tabN n ≠ s) := he
          clear he
          go_wp2_with (go_at_call 64; refine (known_yes n _ (by omega) (by omega)).mono ?_; rintro e w' ⟨rfl, rfl⟩)
          exact ⟨⟨n + 1, by omega, by go_num, hb.alloc hb' _, fun k a b => by
            rcases Nat.lt_or_ge k n with h | h
            · exact Hno.out k a h
            · obtain rfl : k = n := by omega
              exact He.out⟩, by simp [intOf]; omega⟩
    · go_wp2_with fail
      go_ret2
      exact ⟨Or.inr ⟨fun k a b => Hno.out k a (by omega), rfl⟩, hb⟩
theorem tabN_fin : ∀ i j : Fin 11, 1 ≤ i.val → 1 ≤ j.val → tabN i.val = tabN j.val → i = j := by decide
theorem tabN_inj {i j : Nat} (hi : 1 ≤ i) (hi' : i ≤ 10) (hj : 1 ≤ j) (hj' : j ≤ 10) (h : tabN i = tabN j) : i = j := by
  have := tabN_fin ⟨i, by omega⟩ ⟨j, by omega⟩ hi hj h
  exact congrArg Fin.val this
theorem parse_own {a : Int} (h1 : 1 ≤ a) (h2 : a ≤ 10) {e : Ending} (h : ParseEnds (tabN a.toNat) e) : e = .returned (.tuple #[.int .i64 a, .bool true]) := by
  rcases h with ⟨k, g1, g2, g3, rfl⟩ | ⟨g1, rfl⟩
  · have := tabN_inj g1 g2 (by omega) (by omega) g3
    rw [this, Int.toNat_of_nonneg (by omega)]
  · exact absurd rfl (g1 a.toNat (by omega) (by omega))

end Go.Proofs.YtpknifioflagaaaDoor
namespace Go.Proofs.YtpknifioflagaaaDoor
open Go.RowKit Go.Shelf

/-- A condition's name and type; empty, if it is none. -/
def condN (c : Int) : ByteArray := if 1 ≤ c ∧ c ≤ 10 then tabN c.toNat else ⟨#[]⟩
def condT (c : Int) : ByteArray := if 1 ≤ c ∧ c ≤ 10 then tabT c.toNat else ⟨#[]⟩
theorem fname_any (c : Int) (w : World) (hl : RowsLaid w) : Calls Tryd.prog 46 #[.int .i64 c] w fun e w' => e = .returned (.string (condN c)) ∧ w' = w := by
  unfold condN
  split
  · rename_i h
    exact fname_yes c w h.1 h.2 hl
  · exact fname_no c w (by omega)
theorem ftype_any (c : Int) (w : World) (hl : RowsLaid w) : Calls Tryd.prog 44 #[.int .i64 c] w fun e w' => e = .returned (.string (condT c)) ∧ w' = w := by
  unfold condT
  split
  · rename_i h
    exact ftype_yes c w h.1 h.2 hl
  · exact ftype_no c w (by omega)
theorem cond_small (c : Int) : (condN c).size ≤ 9223372036854775807 ∧ (condT c).size ≤ 9223372036854775807 := by
  unfold condN condT
  split
  · rename_i h
    obtain ⟨k, hk, hk2⟩ : ∃ k : Nat, c.toNat = k ∧ k ≤ 10 := ⟨_, rfl, by omega⟩
    rw [hk]
    match k, hk2 with
    | 0, _ => decide
    | 1, _ => decide
    | 2, _ => decide
    | 3, _ => decide
    | 4, _ => decide
    | 5, _ => decide
    | 6, _ => decide
    | 7, _ => decide
    | 8, _ => decide
    | 9, _ => decide
    | 10, _ => decide
  · decide
/-- The payload of an answer with a condition. -/
def errT (c : Int) : List Tok := elemT ty_error [(⟨#[116, 121, 112, 101]⟩, condT c)] (elemT (condN c) [] [])
theorem results_st4 {fn : Func} {tmps : Array Value} {w : World} {b : Nat} {v0 v1 v2 v3 v4 v5 : Value} (h : fn.results = #[.cell 4 25]) (hp : tmps[4]?.getD undef = .pointer (some ⟨b, 0, none⟩)) (hc : w.heap[b]? = some (.cells #[v0, v1, v2, v3, v4, v5] 25)) : (results fn tmps).run Tryd.prog w = .ok (.agg #[v0, v1, v2, v3, v4, v5]) w := by
  obtain ⟨c0, c1, c2, c3, c4, c5⟩ := cells6 hc
  simp [results, h, hp, c0, c1, c2, c3, c4, c5, go_sem, Tryd.isAgg25, Tryd.sizeOf25]
theorem tokMem_nil (n : Nat) (w : World) : TokMem n w none [] (fun _ => (none, 0)) := ⟨by simp, fun k t h => by simp at h⟩
theorem attrMem_nil (n : Nat) (w : World) : AttrMem n w none [] := ⟨by simp, fun a h => by simp at h, fun j a h => by simp at h⟩
theorem attr_one {w : World} {g : Nat} {a b : ByteArray} {T : TypeId} (h : w.heap[g]? = some (.cells #[.string a, .string b] T)) (ha : a.size ≤ 9223372036854775807) (hb : b.size ≤ 9223372036854775807) : AttrMem w.heap.size w (some ⟨g, 0, none⟩) [(a, b)] := by
  refine ⟨by simp, fun x hx => ?_, fun j x hj => ?_⟩
  · simp at hx
    subst hx
    exact ⟨ha, hb⟩
  · cases j with
    | zero =>
      simp at hj
      subst hj
      exact ⟨g, 0, rfl, (Array.getElem?_eq_some_iff.1 h).1, by simp [World.cell?, h], by simp [World.cell?, h]⟩
    | succ j => simp at hj
theorem ElRow.set {base : Nat} {W : World} {v : Value} {l : List TokV} (h : ElRow base W v l) {b : Nat} (hb : b < base) (i : Nat) (u : Value) : ElRow base (W.setCell ⟨b, i, none⟩ u) v l :=
  ⟨ownsRow_setCell_below h.1 (a := ⟨b, i, none⟩) hb u, fun x hx => ⟨ownsRow_setCell_below (h.2 x hx).1 (a := ⟨b, i, none⟩) hb u, (h.2 x hx).2⟩⟩
theorem ElRow.set6 {base : Nat} {w : World} {v : Value} {l : List TokV} (h : ElRow base w v l) {b : Nat} (hb : b < base) (a0 a1 a2 a3 a4 a5 : Value) : ElRow base ((((((w.setCell ⟨b, 0, none⟩ a0).setCell ⟨b, 1, none⟩ a1).setCell ⟨b, 2, none⟩ a2).setCell ⟨b, 3, none⟩ a3).setCell ⟨b, 4, none⟩ a4).setCell ⟨b, 5, none⟩ a5) v l :=
  (((((h.set hb 0 a0).set hb 1 a1).set hb 2 a2).set hb 3 a3).set hb 4 a4).set hb 5 a5
set_option maxRecDepth 100000 in
set_option maxHeartbeats 4000000 in
theorem error_any (k : Int) (ty fr tt id : ByteArray) (pa : Option Addr) (pn pc : Nat) (c : Int) (w : World) (hl : RowsLaid w) :
    Calls Tryd.prog 24 #[.agg #[.int .u8 k, .string ty, .string fr, .string tt, .string id, .slice pa pn pc], .int .i64 c] w fun e w' => ∃ v l, e = .returned (.agg #[.int .u8 k, .string ty_error, .string tt, .string fr, .string id, v]) ∧ l.map (·.1) = errT c ∧ ElRow w.heap.size w' v l ∧ Below w.heap.size w w' := by
  obtain ⟨Wa, hWa, aa, ba, za⟩ := newV w 25 #[.int .u8 k, .string ty, .string fr, .string tt, .string id, .slice pa pn pc]
  obtain ⟨Wb, hWb, ab, bb, zb⟩ := newV Wa 25 #[.int .u8 0, .string ⟨#[]⟩, .string ⟨#[]⟩, .string ⟨#[]⟩, .string ⟨#[]⟩, .slice none 0 0]
  obtain ⟨Wc, hWc, ac, bc, zc⟩ := newV Wb 58 #[.string ⟨#[116, 121, 112, 101]⟩, .string (condT c)]
  rw [za] at ab zb
  rw [zb] at ac zc
  have bB : Below w.heap.size w Wb := ba.trans (bb.mono (by omega))
  have bC : Below w.heap.size w Wc := bB.trans (bc.mono (by omega))
  have hgs := hl.size
  have hlB : RowsLaid Wb := hl.below bB hgs
  have hlC : RowsLaid Wc := hl.below bC hgs
  have HTy := hide (ftype_any c Wb hlB)
  have HNm := hide (fname_any c Wc hlC)
  have aaC := (bc.block w.heap.size (by omega)).trans ((bb.block w.heap.size (by omega)).trans aa)
  have abC := (bc.block (w.heap.size + 1) (by omega)).trans ab
  have hsm := cond_small c
  have HE1 := hide (element_row (condN c) none 0 [] none 0 [] (fun _ => (none, 0)) Wc hsm.1 (attrMem_nil _ _) (tokMem_nil _ _) (by simp))
  obtain ⟨tn, htn⟩ : ∃ tn, condN c = tn := ⟨_, rfl⟩
  obtain ⟨tt', htt⟩ : ∃ tt', condT c = tt' := ⟨_, rfl⟩
  have H0 := hide (And.intro aaC (And.intro abC (And.intro ac (And.intro bC (And.intro hsm (And.intro htn htt))))))
  rw [htn] at HNm HE1
  rw [htt] at HTy hWc
  rw [show ([] : List (ByteArray × ByteArray)).length = 0 from rfl, show ([] : List Tok).length = 0 from rfl] at HE1
  clear aa ba ab bb ac bc bB bC hlB hlC hl aaC abC hsm htn htt
  go_enter Tryd.func24, Tryd.ntmps24
  go_wp2_with (first
    | (go_at_call 44; refine HTy.out.mono ?_; rintro e w1 ⟨rfl, hww⟩; rw [hww]; clear hww)
    | (go_at_call 46; refine HNm.out.mono ?_; rintro e w1 ⟨rfl, hww⟩; rw [hww]; clear hww)
    | (go_at_call 45; refine HE1.out.mono ?_; rintro e w3 ⟨v3, l3, rfl, m3, r3, b3⟩; refine stopHere ?_))
  unfold Hid
  obtain ⟨aaC, abC, ac, bC, hsm, htn, htt⟩ := H0.out
  have hz3 := b3.size
  have hl3 : l3.length = 2 := by
    have h := congrArg List.length m3
    rw [List.length_map] at h
    rw [h]
    rfl
  obtain ⟨ao3, cap3, hv3, hT3⟩ := tokMem_own r3 (by omega)
  have hA3 := (attr_one ac (by decide) hsm.2).below b3
  have hel := element_row ty_error (some ⟨w.heap.size + 2, 0, none⟩) 1 [(⟨#[116, 121, 112, 101]⟩, condT c)] ao3 cap3 (l3.map (·.1)) (avOf l3) w3 (by decide) (hA3.mono (by omega)) hT3 (by rw [List.length_map]; omega)
  rw [List.length_map, hl3, show ([(⟨#[116, 121, 112, 101]⟩, condT c)] : List (ByteArray × ByteArray)).length = 1 from rfl] at hel
  have HE2 := hide hel
  rw [hl3] at hv3
  subst hv3
  have H3 := hide (And.intro m3 (And.intro ((b3.block _ (by omega)).trans aaC) (And.intro ((b3.block _ (by omega)).trans abC) (bC.trans (b3.mono (by omega))))))
  unfold ty_error at HE2
  clear aaC abC ac bC hsm htn htt m3 r3 b3 hT3 hA3 hel HE1 HTy HNm
  go_wp2_with (go_at_call 45; refine HE2.out.mono ?_; rintro e w4 ⟨v4, l4, rfl, m4, r4, b4⟩; refine stopHere ?_)
  unfold Hid
  obtain ⟨m3, g3, h3, B3⟩ := H3.out
  have hz4 := b4.size
  have g4 := (b4.block _ (by omega)).trans g3
  have h4 := (b4.block _ (by omega)).trans h3
  obtain ⟨x0, x1, x2, x3, x4, x5⟩ := cells6 g4
  obtain ⟨y0, y1, y2, y3, y4, y5⟩ := cells6 h4
  have hf := frozen6 h4
  obtain ⟨ga4, gc4, hv4⟩ := own_shape r4.1
  have H4 := hide (And.intro h4 (And.intro (B3.trans (b4.mono (by omega))) (And.intro m4 (And.intro r4 m3))))
  subst hv4
  clear m3 g3 h3 B3 g4 h4 b4 m4 r4 HE2
  go_wp2_with fail
  obtain ⟨h4, B4, m4, r4, m3⟩ := H4.out
  refine bodyPost_ret (results_st4 rfl rfl (set6 h4 _ _ _ _ _ _)) rfl ⟨_, l4, rfl, ?_, ?_, below6 B4 (by omega) _ _ _ _ _ _⟩
  · rw [m4, m3, ← H0.out.2.2.2.2.2.1]
    rfl
  · exact (r4.set6 (by omega) _ _ _ _ _ _).lower (by omega)
end Go.Proofs.YtpknifioflagaaaDoor
