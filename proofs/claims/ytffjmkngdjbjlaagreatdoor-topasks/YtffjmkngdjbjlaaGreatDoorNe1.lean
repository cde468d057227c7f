/- Lists of a node: an element of a row of one's own is written; the end of a row is cleared. -/
import Derived.Test.YtffjmkngdjbjlaaGreatDoorNe0
import Derived.Laws.IdiomCopy
import Derived.Lib.SliceRun
namespace Go.Proofs.YtffjmkngdjbjlaaGreatDoor
open Go.RowKit

theorem ex_clear {o : Oper} {a : Act} {w w' : World} {x : Operand} {t : TypeId} {u r : Value} (ho : o.op = .call { callee := .builtin .clear, args := #[x], argTypes := #[t] }) (hx : a.eval x = u) (hr : (Builtin.clear_ #[t] o.type #[u]).run Tryz.prog w = .ok r w') : (execOp a.eval o).run Tryz.prog w = .ok (.value r) w' := by
  simp [execOp, ho, resolve, invoke, builtin, hx, hr, Result.andThen]
theorem setCells_at (g lim base : Nat) (T : TypeId) (hb : base ≤ g) (w0 : World) : ∀ (vs : List Value) (o : Nat) (w : World) (cur : Array Value), lim ≤ o → w.heap[g]? = some (.cells cur T) → Below base w0 w → ∃ cur', (w.setCells g o vs).heap[g]? = some (.cells cur' T) ∧ cur'.size = cur.size ∧ cur'.toList.take lim = cur.toList.take lim ∧ Below base w0 (w.setCells g o vs)
  | [], o, w, cur, _, h, hw => ⟨cur, h, rfl, rfl, hw⟩
  | v :: vs, o, w, cur, hl, h, hw => by
    obtain ⟨cur', h1, h2, h3, h4⟩ := setCells_at g lim base T hb w0 vs (o + 1) (w.setCell ⟨g, o, none⟩ v) (cur.setIfInBounds o v) (by omega) (heap_setk h) (hw.setCell (p := ⟨g, o, none⟩) hb v)
    refine ⟨cur', h1, by rw [h2, Array.size_setIfInBounds], ?_, h4⟩
    rw [h3, Array.toList_setIfInBounds, List.take_set]
    rw [List.set_eq_of_length_le (by rw [List.length_take]; omega)]
theorem aC_set (y : ByteArray × Nat) : ∀ (L : List (ByteArray × Nat)) (i : Nat), i < L.length → (((aC L).set (i * 2) (.string y.1)).set (i * 2 + 1) (.int .u8 y.2)) = aC (L.set i y)
  | [], i, h => by simp at h
  | x :: L, 0, h => by
    have e : aC (x :: L) = [.string x.1, .int .u8 x.2] ++ aC L := rfl
    rw [e]
    rfl
  | x :: L, i + 1, h => by
    have ih := aC_set y L i (by simpa using h)
    have e : aC (x :: L) = [.string x.1, .int .u8 x.2] ++ aC L := rfl
    rw [e, List.set_cons_succ]
    rw [show aC (x :: L.set i y) = [.string x.1, .int .u8 x.2] ++ aC (L.set i y) from rfl, ← ih]
    rw [List.set_append_right _ _ (by simp; omega), List.set_append_right _ _ (by simp; omega)]
    simp only [List.length_cons, List.length_nil]
    rw [show (i + 1) * 2 - (0 + 1 + 1) = i * 2 by omega, show (i + 1) * 2 + 1 - (0 + 1 + 1) = i * 2 + 1 by omega]
theorem aC_take (L : List (ByteArray × Nat)) (i : Nat) : (aC L).take (i * 2) = aC (L.take i) := by
  have h := aC_app (L.take i) (L.drop i)
  rw [List.take_append_drop] at h
  rw [h]
  by_cases hi : i ≤ L.length
  · rw [List.take_append_of_le_length (by rw [aC_len, List.length_take]; omega), List.take_of_length_le (by rw [aC_len, List.length_take]; omega)]
  · rw [List.drop_eq_nil_of_le (by omega), List.take_of_length_le (l := L) (by omega)]
    rw [show aC ([] : List (ByteArray × Nat)) = [] from rfl, List.append_nil, List.take_of_length_le (by rw [aC_len]; omega)]
theorem own_set_a {w : World} {base g cap i : Nat} {L : List (ByteArray × Nat)} (y : ByteArray × Nat) (h : w.ownsRow base 25 2 (.slice (some ⟨g, 0, none⟩) L.length cap) L.length (aC L)) (hi : i < L.length) :
    ((w.setCell ⟨g, i * 2, none⟩ (.string y.1)).setCell ⟨g, i * 2 + 1, none⟩ (.int .u8 y.2)).ownsRow base 25 2 (.slice (some ⟨g, 0, none⟩) L.length cap) L.length (aC (L.set i y)) := by
  obtain ⟨h1, ⟨e, h2⟩ | ⟨g', cap', cur, e, x1, x2, x3, x4, x5, x6⟩⟩ := h
  · omega
  · cases e
    refine ⟨by rw [aC_len, List.length_set], .inr ⟨g, cap, ((cur.setIfInBounds (i * 2) (.string y.1)).setIfInBounds (i * 2 + 1) (.int .u8 y.2)), rfl, x1, heap_setk (heap_setk x2), x3, x4, by simp [x5], ?_⟩⟩
    rw [Array.toList_setIfInBounds, Array.toList_setIfInBounds, List.take_set, List.take_set, x6]
    exact aC_set y L i hi
theorem clear_a {w : World} {base g cap c i : Nat} {L : List (ByteArray × Nat)} {ty : TypeId} (h : w.ownsRow base 25 2 (.slice (some ⟨g, 0, none⟩) L.length cap) L.length (aC L)) (hi : i < L.length) :
    ∃ w', (Builtin.clear_ #[26] ty #[.slice (some ⟨g, i * 2, none⟩) (L.length - i) c]).run Tryz.prog w = .ok (.tuple #[]) w' ∧ w'.ownsRow base 25 2 (.slice (some ⟨g, 0, none⟩) i cap) i (aC (L.take i)) ∧ Below base w w' := by
  obtain ⟨h1, ⟨e, h2⟩ | ⟨g', cap', cur, e, x1, x2, x3, x4, x5, x6⟩⟩ := h
  · omega
  · cases e
    have hlz : (Builtin.zeroCells #[.string ⟨#[]⟩, .int .u8 0] (L.length - i)).toList.length = (L.length - i) * 2 := by simp [Builtin.zeroCells]
    have hst := run_storeCells_cells (P := Tryz.prog) g (i * 2) (Builtin.zeroCells #[.string ⟨#[]⟩, .int .u8 0] (L.length - i)).toList 0 w
      (fun j hj => by
        rw [hlz] at hj
        have hlt : i * 2 + 0 + j < cur.size := by
          have : L.length * 2 ≤ cap * 2 := Nat.mul_le_mul_right _ x3
          have : i * 2 + (L.length - i) * 2 = L.length * 2 := by rw [← Nat.add_mul]; congr 1; omega
          omega
        have hlt' : i * 2 + j < cur.size := by omega
        simp [World.cell?, x2, hlt'])
      (fun j hj => by simp [World.frozen?, x2])
      (fun v hv => by
        simp [Builtin.zeroCells] at hv
        obtain ⟨j, _, rfl⟩ := hv
        have : j % 2 = 0 ∨ j % 2 = 1 := by omega
        rcases this with h | h <;> simp [h] <;> rfl)
    obtain ⟨cur', y1, y2, y3, y4⟩ := setCells_at g (i * 2) base 25 x1 w (Builtin.zeroCells #[.string ⟨#[]⟩, .int .u8 0] (L.length - i)).toList (i * 2 + 0) w cur (by omega) x2 (Below.refl _ w)
    refine ⟨_, ?_, ⟨by rw [aC_len, List.length_take]; omega, .inr ⟨g, cap, cur', rfl, x1, y1, by omega, x4, by rw [y2, x5], ?_⟩⟩, y4⟩
    · obtain ⟨m, hm⟩ : ∃ m, L.length - i = m + 1 := ⟨L.length - i - 1, by omega⟩
      rw [hm] at hst ⊢
      rw [Nat.add_zero] at hst ⊢
      simp [Builtin.clear_, run_underlying Tryz.underlying26, Tryz.zeroValue25, Value.cells, hst]
    · rw [y3, ← aC_take, ← x6, List.take_take, Nat.min_eq_left (by have := Nat.mul_le_mul_right 2 (Nat.le_of_lt hi); omega)]
theorem sC_set (y : ByteArray × Bool × Int) : ∀ (L : List (ByteArray × Bool × Int)) (i : Nat), i < L.length → ((((sC L).set (i * 3) (.string y.1)).set (i * 3 + 1) (.bool y.2.1)).set (i * 3 + 2) (.int .i64 y.2.2)) = sC (L.set i y)
  | [], i, h => by simp at h
  | x :: L, 0, h => by
    have e : sC (x :: L) = [.string x.1, .bool x.2.1, .int .i64 x.2.2] ++ sC L := rfl
    rw [e]
    rfl
  | x :: L, i + 1, h => by
    have ih := sC_set y L i (by simpa using h)
    have e : sC (x :: L) = [.string x.1, .bool x.2.1, .int .i64 x.2.2] ++ sC L := rfl
    rw [e, List.set_cons_succ]
    rw [show sC (x :: L.set i y) = [.string x.1, .bool x.2.1, .int .i64 x.2.2] ++ sC (L.set i y) from rfl, ← ih]
    rw [List.set_append_right _ _ (by simp; omega), List.set_append_right _ _ (by simp; omega), List.set_append_right _ _ (by simp; omega)]
    simp only [List.length_cons, List.length_nil]
    rw [show (i + 1) * 3 - (0 + 1 + 1 + 1) = i * 3 by omega, show (i + 1) * 3 + 1 - (0 + 1 + 1 + 1) = i * 3 + 1 by omega, show (i + 1) * 3 + 2 - (0 + 1 + 1 + 1) = i * 3 + 2 by omega]
theorem sC_take (L : List (ByteArray × Bool × Int)) (i : Nat) : (sC L).take (i * 3) = sC (L.take i) := by
  have h := sC_app (L.take i) (L.drop i)
  rw [List.take_append_drop] at h
  rw [h]
  by_cases hi : i ≤ L.length
  · rw [List.take_append_of_le_length (by rw [sC_len, List.length_take]; omega), List.take_of_length_le (by rw [sC_len, List.length_take]; omega)]
  · rw [List.drop_eq_nil_of_le (by omega), List.take_of_length_le (l := L) (by omega)]
    rw [show sC ([] : List (ByteArray × Bool × Int)) = [] from rfl, List.append_nil, List.take_of_length_le (by rw [sC_len]; omega)]
theorem own_set_s {w : World} {base g cap i : Nat} {L : List (ByteArray × Bool × Int)} (y : ByteArray × Bool × Int) (h : w.ownsRow base 43 3 (.slice (some ⟨g, 0, none⟩) L.length cap) L.length (sC L)) (hi : i < L.length) :
    (((w.setCell ⟨g, i * 3, none⟩ (.string y.1)).setCell ⟨g, i * 3 + 1, none⟩ (.bool y.2.1)).setCell ⟨g, i * 3 + 2, none⟩ (.int .i64 y.2.2)).ownsRow base 43 3 (.slice (some ⟨g, 0, none⟩) L.length cap) L.length (sC (L.set i y)) := by
  obtain ⟨h1, ⟨e, h2⟩ | ⟨g', cap', cur, e, x1, x2, x3, x4, x5, x6⟩⟩ := h
  · omega
  · cases e
    refine ⟨by rw [sC_len, List.length_set], .inr ⟨g, cap, (((cur.setIfInBounds (i * 3) (.string y.1)).setIfInBounds (i * 3 + 1) (.bool y.2.1)).setIfInBounds (i * 3 + 2) (.int .i64 y.2.2)), rfl, x1, heap_setk (heap_setk (heap_setk x2)), x3, x4, by simp [x5], ?_⟩⟩
    rw [Array.toList_setIfInBounds, Array.toList_setIfInBounds, Array.toList_setIfInBounds, List.take_set, List.take_set, List.take_set, x6]
    exact sC_set y L i hi
theorem clear_s {w : World} {base g cap c i : Nat} {L : List (ByteArray × Bool × Int)} {ty : TypeId} (h : w.ownsRow base 43 3 (.slice (some ⟨g, 0, none⟩) L.length cap) L.length (sC L)) (hi : i < L.length) :
    ∃ w', (Builtin.clear_ #[27] ty #[.slice (some ⟨g, i * 3, none⟩) (L.length - i) c]).run Tryz.prog w = .ok (.tuple #[]) w' ∧ w'.ownsRow base 43 3 (.slice (some ⟨g, 0, none⟩) i cap) i (sC (L.take i)) ∧ Below base w w' := by
  obtain ⟨h1, ⟨e, h2⟩ | ⟨g', cap', cur, e, x1, x2, x3, x4, x5, x6⟩⟩ := h
  · omega
  · cases e
    have hlz : (Builtin.zeroCells #[.string ⟨#[]⟩, .bool false, .int .i64 0] (L.length - i)).toList.length = (L.length - i) * 3 := by simp [Builtin.zeroCells]
    have hst := run_storeCells_cells (P := Tryz.prog) g (i * 3) (Builtin.zeroCells #[.string ⟨#[]⟩, .bool false, .int .i64 0] (L.length - i)).toList 0 w
      (fun j hj => by
        rw [hlz] at hj
        have hlt : i * 3 + 0 + j < cur.size := by
          have : L.length * 3 ≤ cap * 3 := Nat.mul_le_mul_right _ x3
          have : i * 3 + (L.length - i) * 3 = L.length * 3 := by rw [← Nat.add_mul]; congr 1; omega
          omega
        have hlt' : i * 3 + j < cur.size := by omega
        simp [World.cell?, x2, hlt'])
      (fun j hj => by simp [World.frozen?, x2])
      (fun v hv => by
        simp [Builtin.zeroCells] at hv
        obtain ⟨j, _, rfl⟩ := hv
        have : j % 3 = 0 ∨ j % 3 = 1 ∨ j % 3 = 2 := by omega
        rcases this with h | h | h <;> simp [h] <;> rfl)
    obtain ⟨cur', y1, y2, y3, y4⟩ := setCells_at g (i * 3) base 43 x1 w (Builtin.zeroCells #[.string ⟨#[]⟩, .bool false, .int .i64 0] (L.length - i)).toList (i * 3 + 0) w cur (by omega) x2 (Below.refl _ w)
    refine ⟨_, ?_, ⟨by rw [sC_len, List.length_take]; omega, .inr ⟨g, cap, cur', rfl, x1, y1, by omega, x4, by rw [y2, x5], ?_⟩⟩, y4⟩
    · obtain ⟨m, hm⟩ : ∃ m, L.length - i = m + 1 := ⟨L.length - i - 1, by omega⟩
      rw [hm] at hst ⊢
      rw [Nat.add_zero] at hst ⊢
      simp [Builtin.clear_, run_underlying Tryz.underlying27, Tryz.zeroValue43, Value.cells, hst]
    · rw [y3, ← sC_take, ← x6, List.take_take, Nat.min_eq_left (by have := Nat.mul_le_mul_right 3 (Nat.le_of_lt hi); omega)]
theorem iC_set (y : ByteArray × ByteArray × ByteArray) : ∀ (L : List (ByteArray × ByteArray × ByteArray)) (i : Nat), i < L.length → ((((iC L).set (i * 3) (.string y.1)).set (i * 3 + 1) (.string y.2.1)).set (i * 3 + 2) (.string y.2.2)) = iC (L.set i y)
  | [], i, h => by simp at h
  | x :: L, 0, h => by
    have e : iC (x :: L) = [.string x.1, .string x.2.1, .string x.2.2] ++ iC L := rfl
    rw [e]
    rfl
  | x :: L, i + 1, h => by
    have ih := iC_set y L i (by simpa using h)
    have e : iC (x :: L) = [.string x.1, .string x.2.1, .string x.2.2] ++ iC L := rfl
    rw [e, List.set_cons_succ]
    rw [show iC (x :: L.set i y) = [.string x.1, .string x.2.1, .string x.2.2] ++ iC (L.set i y) from rfl, ← ih]
    rw [List.set_append_right _ _ (by simp; omega), List.set_append_right _ _ (by simp; omega), List.set_append_right _ _ (by simp; omega)]
    simp only [List.length_cons, List.length_nil]
    rw [show (i + 1) * 3 - (0 + 1 + 1 + 1) = i * 3 by omega, show (i + 1) * 3 + 1 - (0 + 1 + 1 + 1) = i * 3 + 1 by omega, show (i + 1) * 3 + 2 - (0 + 1 + 1 + 1) = i * 3 + 2 by omega]
theorem iC_take (L : List (ByteArray × ByteArray × ByteArray)) (i : Nat) : (iC L).take (i * 3) = iC (L.take i) := by
  have h := iC_app (L.take i) (L.drop i)
  rw [List.take_append_drop] at h
  rw [h]
  by_cases hi : i ≤ L.length
  · rw [List.take_append_of_le_length (by rw [iC_len, List.length_take]; omega), List.take_of_length_le (by rw [iC_len, List.length_take]; omega)]
  · rw [List.drop_eq_nil_of_le (by omega), List.take_of_length_le (l := L) (by omega)]
    rw [show iC ([] : List (ByteArray × ByteArray × ByteArray)) = [] from rfl, List.append_nil, List.take_of_length_le (by rw [iC_len]; omega)]
theorem own_set_i {w : World} {base g cap i : Nat} {L : List (ByteArray × ByteArray × ByteArray)} (y : ByteArray × ByteArray × ByteArray) (h : w.ownsRow base 83 3 (.slice (some ⟨g, 0, none⟩) L.length cap) L.length (iC L)) (hi : i < L.length) :
    (((w.setCell ⟨g, i * 3, none⟩ (.string y.1)).setCell ⟨g, i * 3 + 1, none⟩ (.string y.2.1)).setCell ⟨g, i * 3 + 2, none⟩ (.string y.2.2)).ownsRow base 83 3 (.slice (some ⟨g, 0, none⟩) L.length cap) L.length (iC (L.set i y)) := by
  obtain ⟨h1, ⟨e, h2⟩ | ⟨g', cap', cur, e, x1, x2, x3, x4, x5, x6⟩⟩ := h
  · omega
  · cases e
    refine ⟨by rw [iC_len, List.length_set], .inr ⟨g, cap, (((cur.setIfInBounds (i * 3) (.string y.1)).setIfInBounds (i * 3 + 1) (.string y.2.1)).setIfInBounds (i * 3 + 2) (.string y.2.2)), rfl, x1, heap_setk (heap_setk (heap_setk x2)), x3, x4, by simp [x5], ?_⟩⟩
    rw [Array.toList_setIfInBounds, Array.toList_setIfInBounds, Array.toList_setIfInBounds, List.take_set, List.take_set, List.take_set, x6]
    exact iC_set y L i hi
theorem clear_i {w : World} {base g cap c i : Nat} {L : List (ByteArray × ByteArray × ByteArray)} {ty : TypeId} (h : w.ownsRow base 83 3 (.slice (some ⟨g, 0, none⟩) L.length cap) L.length (iC L)) (hi : i < L.length) :
    ∃ w', (Builtin.clear_ #[28] ty #[.slice (some ⟨g, i * 3, none⟩) (L.length - i) c]).run Tryz.prog w = .ok (.tuple #[]) w' ∧ w'.ownsRow base 83 3 (.slice (some ⟨g, 0, none⟩) i cap) i (iC (L.take i)) ∧ Below base w w' := by
  obtain ⟨h1, ⟨e, h2⟩ | ⟨g', cap', cur, e, x1, x2, x3, x4, x5, x6⟩⟩ := h
  · omega
  · cases e
    have hlz : (Builtin.zeroCells #[.string ⟨#[]⟩, .string ⟨#[]⟩, .string ⟨#[]⟩] (L.length - i)).toList.length = (L.length - i) * 3 := by simp [Builtin.zeroCells]
    have hst := run_storeCells_cells (P := Tryz.prog) g (i * 3) (Builtin.zeroCells #[.string ⟨#[]⟩, .string ⟨#[]⟩, .string ⟨#[]⟩] (L.length - i)).toList 0 w
      (fun j hj => by
        rw [hlz] at hj
        have hlt : i * 3 + 0 + j < cur.size := by
          have : L.length * 3 ≤ cap * 3 := Nat.mul_le_mul_right _ x3
          have : i * 3 + (L.length - i) * 3 = L.length * 3 := by rw [← Nat.add_mul]; congr 1; omega
          omega
        have hlt' : i * 3 + j < cur.size := by omega
        simp [World.cell?, x2, hlt'])
      (fun j hj => by simp [World.frozen?, x2])
      (fun v hv => by
        simp [Builtin.zeroCells] at hv
        obtain ⟨j, _, rfl⟩ := hv
        have : j % 3 = 0 ∨ j % 3 = 1 ∨ j % 3 = 2 := by omega
        rcases this with h | h | h <;> simp [h] <;> rfl)
    obtain ⟨cur', y1, y2, y3, y4⟩ := setCells_at g (i * 3) base 83 x1 w (Builtin.zeroCells #[.string ⟨#[]⟩, .string ⟨#[]⟩, .string ⟨#[]⟩] (L.length - i)).toList (i * 3 + 0) w cur (by omega) x2 (Below.refl _ w)
    refine ⟨_, ?_, ⟨by rw [iC_len, List.length_take]; omega, .inr ⟨g, cap, cur', rfl, x1, y1, by omega, x4, by rw [y2, x5], ?_⟩⟩, y4⟩
    · obtain ⟨m, hm⟩ : ∃ m, L.length - i = m + 1 := ⟨L.length - i - 1, by omega⟩
      rw [hm] at hst ⊢
      rw [Nat.add_zero] at hst ⊢
      simp [Builtin.clear_, run_underlying Tryz.underlying28, Tryz.zeroValue83, Value.cells, hst]
    · rw [y3, ← iC_take, ← x6, List.take_take, Nat.min_eq_left (by have := Nat.mul_le_mul_right 3 (Nat.le_of_lt hi); omega)]
end Go.Proofs.YtffjmkngdjbjlaaGreatDoor
