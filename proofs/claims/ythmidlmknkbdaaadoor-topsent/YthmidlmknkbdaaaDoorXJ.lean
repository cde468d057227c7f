/- Steps of a walk that move many cells at once. Package fault's names: known, Name, Type, Parse. Stanzas: Error, Result. -/
import Derived.RangeFuncNested
import Derived.RangeFuncLeaves
import Derived.OwnWalkIn
import Derived.WalkKit
import Derived.Test.YthmidlmknkbdaaaDoorXB
import Derived.Deep.MidRow
import Derived.Deep.WholeRow
import Derived.Test.YthmidlmknkbdaaaDoorXA
import Derived.Laws.Rows
import Derived.LoopTactic
import Derived.Test.YthmidlmknkbdaaaDoorXI
namespace Go.Proofs.YthmidlmknkbdaaaDoor
open Go Go.RowKit
variable {P : Program}

/-- One operation whose run is known, at the head of a list. -/
theorem l_val {ops : Array Oper} {rest : List Oper} {o : Oper} {a : Act} {w w' : World} {Q : Exit → Act → World → Prop} (hg : o.guard = none) (v : Value) (hr : (execOp a.eval o).run P w = .ok (.value v) w') (h : wpList P ops Q rest (a.put o.dst v) w') : wpList P ops Q (o :: rest) a w :=
  wpList_plain hg fun K hK => by
    unfold Oper.wp
    rw [hr]
    exact hK _ _ h
theorem l_skip {ops : Array Oper} {rest : List Oper} {o : Oper} {a : Act} {w w' : World} {Q : Exit → Act → World → Prop} (hg : o.guard = none) (hr : (execOp a.eval o).run P w = .ok .skip w') (h : wpList P ops Q rest (a.put o.dst undef) w') : wpList P ops Q (o :: rest) a w :=
  wpList_plain hg fun K hK => by
    unfold Oper.wp
    rw [hr]
    exact hK _ _ h
variable {F : Fence} {n : Nat}
theorem i_val {ops : Array Oper} {rest : List Oper} {o : Oper} {a : Act} {w w' : World} {Q : Exit → Act → World → Prop} (hg : o.guard = none) (hc : ∀ c, o.op ≠ .call c) (hd : ∀ c, o.op ≠ .defer c) (v : Value) (hr : (execOp a.eval o).run P w = .ok (.value v) w') (h : wpListIn F n P ops Q rest (a.put o.dst v) w') : wpListIn F n P ops Q (o :: rest) a w :=
  wpListIn_plain hg fun K hK => by
    refine ⟨fun f hf => ?_, ?_⟩
    · unfold Oper.about at hf
      split at hf
      · exact absurd (by assumption) (hc _)
      · cases hf
    · rw [Oper.semAt_plain F _ _ hd, hr]
      exact hK _ _ h
theorem i_skip {ops : Array Oper} {rest : List Oper} {o : Oper} {a : Act} {w w' : World} {Q : Exit → Act → World → Prop} (hg : o.guard = none) (hc : ∀ c, o.op ≠ .call c) (hd : ∀ c, o.op ≠ .defer c) (hr : (execOp a.eval o).run P w = .ok .skip w') (h : wpListIn F n P ops Q rest (a.put o.dst undef) w') : wpListIn F n P ops Q (o :: rest) a w :=
  wpListIn_plain hg fun K hK => by
    refine ⟨fun f hf => ?_, ?_⟩
    · unfold Oper.about at hf
      split at hf
      · exact absurd (by assumption) (hc _)
      · cases hf
    · rw [Oper.semAt_plain F _ _ hd, hr]
      exact hK _ _ h

section
variable {ops : Array Oper} {rest : List Oper} {o : Oper} {a : Act} {w w' : World} {Q : Exit → Act → World → Prop}
theorem ex_load {ty : TypeId} {x : Operand} {v : Value} {p : Addr} (ho : o.op = .load ty x) (hx : a.eval x = .pointer (some p)) (hr : (Instr.loadAt ty (.pointer (some p))).run P w = .ok v w') : (execOp a.eval o).run P w = .ok (.value v) w' := by
  unfold execOp
  simp [ho, hx, hr]
theorem ex_store {ty : TypeId} {x y : Operand} {u : Value} {p : Addr} (ho : o.op = .store ty x y) (hx : a.eval x = .pointer (some p)) (hy : a.eval y = u) (hr : (Instr.storeAt ty (.pointer (some p)) u).run P w = .ok () w') : (execOp a.eval o).run P w = .ok .skip w' := by
  unfold execOp
  simp [ho, hx, hy, hr]
theorem ex_alloc {ty : TypeId} {v : Value} (ho : o.op = .alloc ty) (hr : (Instr.alloc ty true (.tuple #[])).run P w = .ok v w') : (execOp a.eval o).run P w = .ok (.value v) w' := by
  unfold execOp
  simp [ho, hr]
theorem ex_box {ty : TypeId} {x : Operand} {u v : Value} (ho : o.op = .box ty x) (hx : a.eval x = u) (hr : (Instr.box ty u).run P w = .ok v w') : (execOp a.eval o).run P w = .ok (.value v) w' := by
  unfold execOp
  simp [ho, hx, hr]
/-- A long variable is loaded. -/
theorem l_load (ty : TypeId) {x : Operand} {v : Value} {p : Addr} (hr : (Instr.loadAt ty (.pointer (some p))).run P w = .ok v w) (hg : o.guard = none) (ho : o.op = .load ty x) (hx : a.eval x = .pointer (some p)) (h : wpList P ops Q rest (a.put o.dst v) w) : wpList P ops Q (o :: rest) a w := l_val hg v (ex_load ho hx hr) h
theorem i_load (ty : TypeId) {x : Operand} {v : Value} {p : Addr} (hr : (Instr.loadAt ty (.pointer (some p))).run P w = .ok v w) (hg : o.guard = none) (ho : o.op = .load ty x) (hx : a.eval x = .pointer (some p)) (h : wpListIn F n P ops Q rest (a.put o.dst v) w) : wpListIn F n P ops Q (o :: rest) a w := i_val hg (fun c e => by rw [ho] at e; cases e) (fun c e => by rw [ho] at e; cases e) v (ex_load ho hx hr) h
/-- A long variable is stored. -/
theorem l_store (ty : TypeId) {x y : Operand} {u : Value} {p : Addr} (hr : (Instr.storeAt ty (.pointer (some p)) u).run P w = .ok () w') (hg : o.guard = none) (ho : o.op = .store ty x y) (hx : a.eval x = .pointer (some p)) (hy : a.eval y = u) (h : wpList P ops Q rest (a.put o.dst undef) w') : wpList P ops Q (o :: rest) a w := l_skip hg (ex_store ho hx hy hr) h
theorem i_store (ty : TypeId) {x y : Operand} {u : Value} {p : Addr} (hr : (Instr.storeAt ty (.pointer (some p)) u).run P w = .ok () w') (hg : o.guard = none) (ho : o.op = .store ty x y) (hx : a.eval x = .pointer (some p)) (hy : a.eval y = u) (h : wpListIn F n P ops Q rest (a.put o.dst undef) w') : wpListIn F n P ops Q (o :: rest) a w := i_skip hg (fun c e => by rw [ho] at e; cases e) (fun c e => by rw [ho] at e; cases e) (ex_store ho hx hy hr) h
theorem run_alloc_long {ty : TypeId} {cs : Array Value} {m b : Nat} (hi : (P.info? ty).map (fun i => (i.zero, i.size, i.bytes)) = some (some (.agg cs), m, b)) (w : World) : (Instr.alloc ty true (.tuple #[])).run P w = .ok (.pointer (some ⟨w.heap.size, 0, none⟩)) (w.alloc (.cells cs ty)) := by
  cases hq : P.info? ty with
  | none => simp [hq] at hi
  | some i =>
    simp [hq] at hi
    simp [Instr.alloc, zeroValue, typeInfo, hq, hi.1, newVar, newRow, Value.cells]
theorem run_box_long (ty : TypeId) (cs : Array Value) (w : World) : (Instr.box ty (.agg cs)).run P w = .ok (.pointer (some ⟨w.heap.size, 0, none⟩)) (w.alloc (.cells cs ty)) := by
  simp [Instr.box, newVar, newRow, Value.cells]
/-- A long variable is made, with its zero. -/
theorem l_alloc (ty : TypeId) {cs : Array Value} {m b : Nat} (hi : (P.info? ty).map (fun i => (i.zero, i.size, i.bytes)) = some (some (.agg cs), m, b)) (hg : o.guard = none) (ho : o.op = .alloc ty) (h : wpList P ops Q rest (a.put o.dst (.pointer (some ⟨w.heap.size, 0, none⟩))) (w.alloc (.cells cs ty))) : wpList P ops Q (o :: rest) a w := l_val hg _ (ex_alloc ho (run_alloc_long hi w)) h
theorem i_alloc (ty : TypeId) {cs : Array Value} {m b : Nat} (hi : (P.info? ty).map (fun i => (i.zero, i.size, i.bytes)) = some (some (.agg cs), m, b)) (hg : o.guard = none) (ho : o.op = .alloc ty) (h : wpListIn F n P ops Q rest (a.put o.dst (.pointer (some ⟨w.heap.size, 0, none⟩))) (w.alloc (.cells cs ty))) : wpListIn F n P ops Q (o :: rest) a w := i_val hg (fun c e => by rw [ho] at e; cases e) (fun c e => by rw [ho] at e; cases e) _ (ex_alloc ho (run_alloc_long hi w)) h
/-- What is stored in a block that was made last stands there. -/
theorem run_store_new {ty : TypeId} {cs c : Array Value} {v : Value} {m b : Nat} (hi : (P.info? ty).map (fun i => (i.zero, i.size, i.bytes)) = some (some v, m, b)) (w : World) (h1 : cs.size = m) (h2 : c.size = m) (h3 : cs.all (·.oneCell') = true) : (Instr.storeAt ty (.pointer (some ⟨w.heap.size, 0, none⟩)) (.agg cs)).run P (w.alloc (.cells c ty)) = .ok () (w.alloc (.cells cs ty)) :=
  run_storeAt_new w ty c cs (by cases hq : P.info? ty with | none => simp [hq] at hi | some i => simp [hq] at hi; simp [hi.2.1, h1]) (by omega) h3
/-- What lies in a block from its head on is loaded. -/
theorem run_load_row {ty ty' : TypeId} {cs : Array Value} {v : Value} {m b g : Nat} {d : TypeDesc} (hi : (P.info? ty).map (fun i => (i.zero, i.size, i.bytes)) = some (some v, m, b)) (hu : P.underlying ty = some d) (hd : d.isRow = true) (h1 : cs.size = m) (hw : w.heap[g]? = some (.cells cs ty')) : (Instr.loadAt ty (.pointer (some ⟨g, 0, none⟩))).run P w = .ok (.agg cs) w := by
  have h := run_loadAt_mid (P := P) w g 0 ty cs.toList d (fun j v hv => by
    rw [cell_of_row w g (0 + j) cs ty' (0, 0) hw]
    simpa using hv) hu hd (by cases hq : P.info? ty with | none => simp [hq] at hi | some i => simp [hq] at hi; simp [hi.2.1, h1])
  simpa using h
end
theorem one_bytes (s : List UInt8) : ∀ v ∈ Lib.byteCells s, v.oneCell' = true := by
  intro v hv
  simp [Lib.byteCells] at hv
  obtain ⟨b, _, rfl⟩ := hv
  rfl
end Go.Proofs.YthmidlmknkbdaaaDoor
namespace Go.Proofs.YthmidlmknkbdaaaDoor
open Go.RowKit

/-- The names in the table, by the condition's number. -/
def tabN : Nat → ByteArray
  | 1 => ⟨#[98, 97, 100, 45, 114, 101, 113, 117, 101, 115, 116]⟩
  | 2 => ⟨#[99, 111, 110, 102, 108, 105, 99, 116]⟩
  | 3 => ⟨#[102, 111, 114, 98, 105, 100, 100, 101, 110]⟩
  | 4 => ⟨#[105, 116, 101, 109, 45, 110, 111, 116, 45, 102, 111, 117, 110, 100]⟩
  | 5 => ⟨#[106, 105, 100, 45, 109, 97, 108, 102, 111, 114, 109, 101, 100]⟩
  | 6 => ⟨#[110, 111, 116, 45, 97, 108, 108, 111, 119, 101, 100]⟩
  | 7 => ⟨#[110, 111, 116, 45, 97, 117, 116, 104, 111, 114, 105, 122, 101, 100]⟩
  | 8 => ⟨#[114, 101, 115, 111, 117, 114, 99, 101, 45, 99, 111, 110, 115, 116, 114, 97, 105, 110, 116]⟩
  | 9 => ⟨#[115, 101, 114, 118, 105, 99, 101, 45, 117, 110, 97, 118, 97, 105, 108, 97, 98, 108, 101]⟩
  | 10 => ⟨#[117, 110, 101, 120, 112, 101, 99, 116, 101, 100, 45, 114, 101, 113, 117, 101, 115, 116]⟩
  | _ => ⟨#[]⟩
/-- The types in the table. -/
def tabT : Nat → ByteArray
  | 1 => ⟨#[109, 111, 100, 105, 102, 121]⟩
  | 2 => ⟨#[99, 97, 110, 99, 101, 108]⟩
  | 3 => ⟨#[97, 117, 116, 104]⟩
  | 4 => ⟨#[99, 97, 110, 99, 101, 108]⟩
  | 5 => ⟨#[109, 111, 100, 105, 102, 121]⟩
  | 6 => ⟨#[99, 97, 110, 99, 101, 108]⟩
  | 7 => ⟨#[97, 117, 116, 104]⟩
  | 8 => ⟨#[119, 97, 105, 116]⟩
  | 9 => ⟨#[99, 97, 110, 99, 101, 108]⟩
  | 10 => ⟨#[119, 97, 105, 116]⟩
  | _ => ⟨#[]⟩

/-- The table's cells. -/
def tabCs : Array Value := #[.string (tabN 0), .string (tabT 0), .string (tabN 1), .string (tabT 1), .string (tabN 2), .string (tabT 2), .string (tabN 3), .string (tabT 3), .string (tabN 4), .string (tabT 4), .string (tabN 5), .string (tabT 5), .string (tabN 6), .string (tabT 6), .string (tabN 7), .string (tabT 7), .string (tabN 8), .string (tabT 8), .string (tabN 9), .string (tabT 9), .string (tabN 10), .string (tabT 10)]

theorem tab_at (k : Nat) (h : k < 11) : tabCs[k * 2]? = some (.string (tabN k)) ∧ tabCs[k * 2 + 1]? = some (.string (tabT k)) := by
  match k, h with
  | 0, _ => exact ⟨rfl, rfl⟩
  | 1, _ => exact ⟨rfl, rfl⟩
  | 2, _ => exact ⟨rfl, rfl⟩
  | 3, _ => exact ⟨rfl, rfl⟩
  | 4, _ => exact ⟨rfl, rfl⟩
  | 5, _ => exact ⟨rfl, rfl⟩
  | 6, _ => exact ⟨rfl, rfl⟩
  | 7, _ => exact ⟨rfl, rfl⟩
  | 8, _ => exact ⟨rfl, rfl⟩
  | 9, _ => exact ⟨rfl, rfl⟩
  | 10, _ => exact ⟨rfl, rfl⟩
theorem seq_true {a b : ByteArray} (h : a = b) : (a.toList == b.toList) = true := by rw [h]; simp
theorem seq_false {a b : ByteArray} (h : a ≠ b) : (a.toList == b.toList) = false := by
  rw [beq_eq_false_iff_ne]
  intro e
  rw [ByteArray.toList_eq, ByteArray.toList_eq] at e
  apply h
  cases a; cases b
  simp only [ByteArray.mk.injEq]
  exact Array.toList_inj.1 e

/-- What both Parse answer. -/
def ParseEnds (s : ByteArray) (e : Ending) : Prop :=
  (∃ k : Nat, 1 ≤ k ∧ k ≤ 10 ∧ tabN k = s ∧ e = .returned (.tuple #[.int .i64 k, .bool true])) ∨ ((∀ k : Nat, 1 ≤ k → k ≤ 10 → tabN k ≠ s) ∧ e = .returned (.tuple #[.int .i64 0, .bool false]))

theorem tabN_fin : ∀ i j : Fin 11, 1 ≤ i.val → 1 ≤ j.val → tabN i.val = tabN j.val → i = j := by decide
theorem tabN_inj {i j : Nat} (hi : 1 ≤ i) (hi' : i ≤ 10) (hj : 1 ≤ j) (hj' : j ≤ 10) (h : tabN i = tabN j) : i = j := by
  have := tabN_fin ⟨i, by omega⟩ ⟨j, by omega⟩ hi hj h
  exact congrArg Fin.val this
theorem parse_own {a : Int} (h1 : 1 ≤ a) (h2 : a ≤ 10) {e : Ending} (h : ParseEnds (tabN a.toNat) e) : e = .returned (.tuple #[.int .i64 a, .bool true]) := by
  rcases h with ⟨k, g1, g2, g3, rfl⟩ | ⟨g1, rfl⟩
  · have := tabN_inj g1 g2 (by omega) (by omega) g3
    rw [this, Int.toNat_of_nonneg (by omega)]
  · exact absurd rfl (g1 a.toNat (by omega) (by omega))

end Go.Proofs.YthmidlmknkbdaaaDoor
namespace Go.Proofs.YthmidlmknkbdaaaDoor
open Go.RowKit Go.Shelf

/-- A condition's name and type; empty, if it is none. -/
def condN (c : Int) : ByteArray := if 1 ≤ c ∧ c ≤ 10 then tabN c.toNat else ⟨#[]⟩
def condT (c : Int) : ByteArray := if 1 ≤ c ∧ c ≤ 10 then tabT c.toNat else ⟨#[]⟩
theorem cond_small (c : Int) : (condN c).size ≤ 9223372036854775807 ∧ (condT c).size ≤ 9223372036854775807 := by
  unfold condN condT
  split
  · rename_i h
    obtain ⟨k, hk, hk2⟩ : ∃ k : Nat, c.toNat = k ∧ k ≤ 10 := ⟨_, rfl, by omega⟩
    rw [hk]
    match k, hk2 with
    | 0, _ => decide
    | 1, _ => decide
    | 2, _ => decide
    | 3, _ => decide
    | 4, _ => decide
    | 5, _ => decide
    | 6, _ => decide
    | 7, _ => decide
    | 8, _ => decide
    | 9, _ => decide
    | 10, _ => decide
  · decide
/-- The payload of an answer with a condition. -/
def errT (c : Int) : List Tok := elemT ty_error [(⟨#[116, 121, 112, 101]⟩, condT c)] (elemT (condN c) [] [])
theorem results_st4 {fn : Func} {tmps : Array Value} {w : World} {b : Nat} {v0 v1 v2 v3 v4 v5 : Value} (h : fn.results = #[.cell 4 38]) (hp : tmps[4]?.getD undef = .pointer (some ⟨b, 0, none⟩)) (hc : w.heap[b]? = some (.cells #[v0, v1, v2, v3, v4, v5] 38)) : (results fn tmps).run Tryd.prog w = .ok (.agg #[v0, v1, v2, v3, v4, v5]) w := by
  obtain ⟨c0, c1, c2, c3, c4, c5⟩ := cells6 hc
  simp [results, h, hp, c0, c1, c2, c3, c4, c5, go_sem, Tryd.isAgg38, Tryd.sizeOf38]
theorem tokMem_nil (n : Nat) (w : World) : TokMem n w none [] (fun _ => (none, 0)) := ⟨by simp, fun k t h => by simp at h⟩
theorem attrMem_nil (n : Nat) (w : World) : AttrMem n w none [] := ⟨by simp, fun a h => by simp at h, fun j a h => by simp at h⟩
theorem attr_one {w : World} {g : Nat} {a b : ByteArray} {T : TypeId} (h : w.heap[g]? = some (.cells #[.string a, .string b] T)) (ha : a.size ≤ 9223372036854775807) (hb : b.size ≤ 9223372036854775807) : AttrMem w.heap.size w (some ⟨g, 0, none⟩) [(a, b)] := by
  refine ⟨by simp, fun x hx => ?_, fun j x hj => ?_⟩
  · simp at hx
    subst hx
    exact ⟨ha, hb⟩
  · cases j with
    | zero =>
      simp at hj
      subst hj
      exact ⟨g, 0, rfl, (Array.getElem?_eq_some_iff.1 h).1, by simp [World.cell?, h], by simp [World.cell?, h]⟩
    | succ j => simp at hj
theorem ElRow.set {base : Nat} {W : World} {v : Value} {l : List TokV} (h : ElRow base W v l) {b : Nat} (hb : b < base) (i : Nat) (u : Value) : ElRow base (W.setCell ⟨b, i, none⟩ u) v l :=
  ⟨ownsRow_setCell_below h.1 (a := ⟨b, i, none⟩) hb u, fun x hx => ⟨ownsRow_setCell_below (h.2 x hx).1 (a := ⟨b, i, none⟩) hb u, (h.2 x hx).2⟩⟩
theorem ElRow.set6 {base : Nat} {w : World} {v : Value} {l : List TokV} (h : ElRow base w v l) {b : Nat} (hb : b < base) (a0 a1 a2 a3 a4 a5 : Value) : ElRow base ((((((w.setCell ⟨b, 0, none⟩ a0).setCell ⟨b, 1, none⟩ a1).setCell ⟨b, 2, none⟩ a2).setCell ⟨b, 3, none⟩ a3).setCell ⟨b, 4, none⟩ a4).setCell ⟨b, 5, none⟩ a5) v l :=
  (((((h.set hb 0 a0).set hb 1 a1).set hb 2 a2).set hb 3 a3).set hb 4 a4).set hb 5 a5
end Go.Proofs.YthmidlmknkbdaaaDoor
