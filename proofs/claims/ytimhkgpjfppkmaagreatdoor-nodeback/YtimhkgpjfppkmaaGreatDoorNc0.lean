/- Rows of a call's own: people and items of a node; append. -/
import Derived.Test.YtimhkgpjfppkmaaGreatDoorQR
namespace Go.Proofs.YtimhkgpjfppkmaaGreatDoor
open Go.RowKit

theorem ex_appN {o : Oper} {a : Act} {w w' : World} {s x : Operand} {t t' : TypeId} {u v r : Value} (ho : o.op = .call { callee := .builtin .append, args := #[s, x], argTypes := #[t, t'] }) (hs : a.eval s = u) (hx : a.eval x = v) (hr : (Builtin.append_ #[t, t'] o.type #[u, v]).run Tryz.prog w = .ok r w') : (execOp a.eval o).run Tryz.prog w = .ok (.value r) w' := by
  simp [execOp, ho, resolve, invoke, builtin, hs, hx, hr, Result.andThen]
/-- Elements as a row of cells. -/
def aC (L : List (ByteArray × Nat)) : List Value := L.flatMap fun x => [.string x.1, .int .u8 x.2]
theorem aC_app (A B : List (ByteArray × Nat)) : aC (A ++ B) = aC A ++ aC B := by simp [aC]
theorem aC_len (L : List (ByteArray × Nat)) : (aC L).length = L.length * 2 := by
  induction L with
  | nil => rfl
  | cons x L ih =>
    have e : aC (x :: L) = [.string x.1, .int .u8 x.2] ++ aC L := rfl
    rw [e, List.length_append, ih]
    simp
    omega
theorem aC_get : ∀ (L : List (ByteArray × Nat)) (i : Nat) (x : ByteArray × Nat), L[i]? = some x → ∀ j (h : j < 2), (aC L)[i * 2 + j]? = some ([.string x.1, .int .u8 x.2][j]'h)
  | [], i, x, h => by simp at h
  | y :: L, 0, x, h => by
    simp at h
    subst h
    intro j hj
    have e : aC (y :: L) = [.string y.1, .int .u8 y.2] ++ aC L := rfl
    rw [e, List.getElem?_append_left (by simp; omega), Nat.zero_mul, Nat.zero_add, List.getElem?_eq_getElem]
  | y :: L, i + 1, x, h => by
    intro j hj
    have ih := aC_get L i x (by simpa using h) j hj
    have e : aC (y :: L) = [.string y.1, .int .u8 y.2] ++ aC L := rfl
    rw [e, List.getElem?_append_right (by simp; omega)]
    show (aC L)[(i + 1) * 2 + j - 2]? = _
    rw [show (i + 1) * 2 + j - 2 = i * 2 + j by omega]
    exact ih
theorem aC_one (L : List (ByteArray × Nat)) : ∀ v ∈ aC L, v.oneCell' = true := by
  intro v hv
  obtain ⟨x, _, hx⟩ := List.mem_flatMap.1 hv
  simp at hx
  rcases hx with rfl | rfl <;> rfl
/-- A row of one's own is read. -/
theorem own_a {W : World} {base : Nat} {v : Value} {L : List (ByteArray × Nat)} (h : W.ownsRow base 55 2 v L.length (aC L)) (hl : L.length ≤ 1000000) : ∃ ao cap, v = .slice ao L.length cap ∧ AffMem W.heap.size W ao L ∧ L.length ≤ cap ∧ cap ≤ maxLen ∧ ∀ a, ao = some a → base ≤ a.block ∧ a.off = 0 := by
  obtain ⟨h1, ⟨rfl, h2⟩ | ⟨g, cap, cur, rfl, x1, x2, x3, x4, x5, x6⟩⟩ := h
  · obtain rfl : L = [] := List.length_eq_zero_iff.1 h2
    exact ⟨none, 0, rfl, ⟨by simp, fun k x hk => by simp at hk⟩, by simp, by simp, fun a e => by cases e⟩
  · refine ⟨_, cap, rfl, ⟨hl, fun k x hk => ?_⟩, x3, x4, fun a e => by cases e; exact ⟨x1, rfl⟩⟩
    have hlt := (List.getElem?_eq_some_iff.1 hk).1
    have e := aC_get L k x hk
    have e0 := e 0 (by omega)
    rw [← x6, List.getElem?_take_of_lt (by omega)] at e0
    have e1 := e 1 (by omega)
    rw [← x6, List.getElem?_take_of_lt (by omega)] at e1
    simp only [List.getElem_cons_zero, List.getElem_cons_succ] at e0 e1
    refine ⟨g, 0, rfl, (Array.getElem?_eq_some_iff.1 x2).1, ?_, ?_⟩
    · rw [cell_of_row W g _ _ _ _ x2, Nat.zero_add]
      simpa using e0
    · rw [cell_of_row W g _ _ _ _ x2, Nat.zero_add]
      simpa using e1
set_option maxRecDepth 100000 in
theorem app_a {W : World} {k : Nat} {v : Value} {xs ys : List (ByteArray × Nat)} {ao : Option Addr} {cap : Nat} {T : TypeId} (hv : W.ownsRow k 55 2 v xs.length (aC xs)) (hm : AffMem W.heap.size W ao ys) (hk : k ≤ W.heap.size) (hs : xs.length + ys.length ≤ 2000000) :
    ∃ v' w', (Builtin.append_ #[23, 23] T #[v, .slice ao ys.length cap]).run Tryz.prog W = .ok v' w' ∧ w'.ownsRow k 55 2 v' (xs ++ ys).length (aC (xs ++ ys)) ∧ W.grownBy w' v.ownBlock ∧ (v'.ownBlock = v.ownBlock ∨ v'.ownBlock = some W.heap.size) := by
  obtain ⟨ti, t1, t2, t3, t4⟩ := info_parts infoAff
  cases ao with
  | none =>
    have hl : ys = [] := by
      cases ys with
      | nil => rfl
      | cons y ys =>
        obtain ⟨b, off, e, _⟩ := hm.2 0 y rfl
        cases e
    subst hl
    refine ⟨v, W, ?_, by simpa using hv, World.grownBy.refl _ _, .inl rfl⟩
    obtain ⟨_, ⟨rfl, h2'⟩ | ⟨g, c, cur, rfl, _, _, hnc, _⟩⟩ := hv
    · simp [Builtin.append_, run_underlying Tryz.underlying23, sizeOf, typeInfo, t1, Builtin.lenOf, Builtin.firstCells]
    · simp [Builtin.append_, run_underlying Tryz.underlying23, sizeOf, typeInfo, t1, Builtin.lenOf, Builtin.firstCells, hnc, storeCells]
  | some a =>
    have hab : ys = [] ∨ ∃ b off, a = ⟨b, off, none⟩ := by
      cases ys with
      | nil => exact .inl rfl
      | cons y ys =>
        obtain ⟨b, off, e, _⟩ := hm.2 0 y rfl
        cases e
        exact .inr ⟨b, off, rfl⟩
    obtain ⟨v', w', hap, z1, z2, _, z4⟩ := run_append_own_at (P := Tryz.prog) W k 23 T 55 ti _ 2 24 Tryz.underlying23 t1 t2 t3 t4 rfl (by omega) v xs.length (aC xs) hv a ys.length cap (aC ys) (aC_len ys) (fun j z hj => by
      have hlt := (List.getElem?_eq_some_iff.1 hj).1
      rw [aC_len] at hlt
      have hi : j / 2 < ys.length := by omega
      obtain ⟨b, off, e, hb, c0, c1⟩ := hm.2 (j / 2) ys[j / 2] (List.getElem?_eq_getElem hi)
      cases e
      have hg := aC_get ys (j / 2) ys[j / 2] (List.getElem?_eq_getElem hi) (j % 2) (Nat.mod_lt _ (by omega))
      rw [show j / 2 * 2 + j % 2 = j by omega, hj] at hg
      rw [Addr.add_mid]
      have h3 : j % 2 = 0 ∨ j % 2 = 1 := by omega
      rcases h3 with h3 | h3
      · rw [show off + j = off + j / 2 * 2 by omega, c0]
        simp only [h3, List.getElem_cons_zero] at hg
        exact hg.symm
      · rw [show off + j = off + j / 2 * 2 + 1 by omega, c1]
        simp only [h3, List.getElem_cons_zero, List.getElem_cons_succ] at hg
        exact hg.symm) (aC_one ys) (by unfold maxLen; omega) (by omega) hk
    exact ⟨v', w', hap, by rw [List.length_append, aC_app]; exact z1, z2, z4⟩
/-- Elements as a row of cells. -/
def sC (L : List (ByteArray × Bool × Int)) : List Value := L.flatMap fun x => [.string x.1, .bool x.2.1, .int .i64 x.2.2]
theorem sC_app (A B : List (ByteArray × Bool × Int)) : sC (A ++ B) = sC A ++ sC B := by simp [sC]
theorem sC_len (L : List (ByteArray × Bool × Int)) : (sC L).length = L.length * 3 := by
  induction L with
  | nil => rfl
  | cons x L ih =>
    have e : sC (x :: L) = [.string x.1, .bool x.2.1, .int .i64 x.2.2] ++ sC L := rfl
    rw [e, List.length_append, ih]
    simp
    omega
theorem sC_get : ∀ (L : List (ByteArray × Bool × Int)) (i : Nat) (x : ByteArray × Bool × Int), L[i]? = some x → ∀ j (h : j < 3), (sC L)[i * 3 + j]? = some ([.string x.1, .bool x.2.1, .int .i64 x.2.2][j]'h)
  | [], i, x, h => by simp at h
  | y :: L, 0, x, h => by
    simp at h
    subst h
    intro j hj
    have e : sC (y :: L) = [.string y.1, .bool y.2.1, .int .i64 y.2.2] ++ sC L := rfl
    rw [e, List.getElem?_append_left (by simp; omega), Nat.zero_mul, Nat.zero_add, List.getElem?_eq_getElem]
  | y :: L, i + 1, x, h => by
    intro j hj
    have ih := sC_get L i x (by simpa using h) j hj
    have e : sC (y :: L) = [.string y.1, .bool y.2.1, .int .i64 y.2.2] ++ sC L := rfl
    rw [e, List.getElem?_append_right (by simp; omega)]
    show (sC L)[(i + 1) * 3 + j - 3]? = _
    rw [show (i + 1) * 3 + j - 3 = i * 3 + j by omega]
    exact ih
theorem sC_one (L : List (ByteArray × Bool × Int)) : ∀ v ∈ sC L, v.oneCell' = true := by
  intro v hv
  obtain ⟨x, _, hx⟩ := List.mem_flatMap.1 hv
  simp at hx
  rcases hx with rfl | rfl | rfl <;> rfl
/-- A row of one's own is read. -/
theorem own_s {W : World} {base : Nat} {v : Value} {L : List (ByteArray × Bool × Int)} (h : W.ownsRow base 58 3 v L.length (sC L)) (hl : L.length ≤ 1000000) : ∃ ao cap, v = .slice ao L.length cap ∧ SubMem W.heap.size W ao L ∧ L.length ≤ cap ∧ cap ≤ maxLen ∧ ∀ a, ao = some a → base ≤ a.block ∧ a.off = 0 := by
  obtain ⟨h1, ⟨rfl, h2⟩ | ⟨g, cap, cur, rfl, x1, x2, x3, x4, x5, x6⟩⟩ := h
  · obtain rfl : L = [] := List.length_eq_zero_iff.1 h2
    exact ⟨none, 0, rfl, ⟨by simp, fun k x hk => by simp at hk⟩, by simp, by simp, fun a e => by cases e⟩
  · refine ⟨_, cap, rfl, ⟨hl, fun k x hk => ?_⟩, x3, x4, fun a e => by cases e; exact ⟨x1, rfl⟩⟩
    have hlt := (List.getElem?_eq_some_iff.1 hk).1
    have e := sC_get L k x hk
    have e0 := e 0 (by omega)
    rw [← x6, List.getElem?_take_of_lt (by omega)] at e0
    have e1 := e 1 (by omega)
    rw [← x6, List.getElem?_take_of_lt (by omega)] at e1
    have e2 := e 2 (by omega)
    rw [← x6, List.getElem?_take_of_lt (by omega)] at e2
    simp only [List.getElem_cons_zero, List.getElem_cons_succ] at e0 e1 e2
    refine ⟨g, 0, rfl, (Array.getElem?_eq_some_iff.1 x2).1, ?_, ?_, ?_⟩
    · rw [cell_of_row W g _ _ _ _ x2, Nat.zero_add]
      simpa using e0
    · rw [cell_of_row W g _ _ _ _ x2, Nat.zero_add]
      simpa using e1
    · rw [cell_of_row W g _ _ _ _ x2, Nat.zero_add]
      simpa using e2
set_option maxRecDepth 100000 in
theorem app_s {W : World} {k : Nat} {v : Value} {xs ys : List (ByteArray × Bool × Int)} {ao : Option Addr} {cap : Nat} {T : TypeId} (hv : W.ownsRow k 58 3 v xs.length (sC xs)) (hm : SubMem W.heap.size W ao ys) (hk : k ≤ W.heap.size) (hs : xs.length + ys.length ≤ 2000000) :
    ∃ v' w', (Builtin.append_ #[24, 24] T #[v, .slice ao ys.length cap]).run Tryz.prog W = .ok v' w' ∧ w'.ownsRow k 58 3 v' (xs ++ ys).length (sC (xs ++ ys)) ∧ W.grownBy w' v.ownBlock ∧ (v'.ownBlock = v.ownBlock ∨ v'.ownBlock = some W.heap.size) := by
  obtain ⟨ti, t1, t2, t3, t4⟩ := info_parts infoSub
  cases ao with
  | none =>
    have hl : ys = [] := by
      cases ys with
      | nil => rfl
      | cons y ys =>
        obtain ⟨b, off, e, _⟩ := hm.2 0 y rfl
        cases e
    subst hl
    refine ⟨v, W, ?_, by simpa using hv, World.grownBy.refl _ _, .inl rfl⟩
    obtain ⟨_, ⟨rfl, h2'⟩ | ⟨g, c, cur, rfl, _, _, hnc, _⟩⟩ := hv
    · simp [Builtin.append_, run_underlying Tryz.underlying24, sizeOf, typeInfo, t1, Builtin.lenOf, Builtin.firstCells]
    · simp [Builtin.append_, run_underlying Tryz.underlying24, sizeOf, typeInfo, t1, Builtin.lenOf, Builtin.firstCells, hnc, storeCells]
  | some a =>
    have hab : ys = [] ∨ ∃ b off, a = ⟨b, off, none⟩ := by
      cases ys with
      | nil => exact .inl rfl
      | cons y ys =>
        obtain ⟨b, off, e, _⟩ := hm.2 0 y rfl
        cases e
        exact .inr ⟨b, off, rfl⟩
    obtain ⟨v', w', hap, z1, z2, _, z4⟩ := run_append_own_at (P := Tryz.prog) W k 24 T 58 ti _ 3 32 Tryz.underlying24 t1 t2 t3 t4 rfl (by omega) v xs.length (sC xs) hv a ys.length cap (sC ys) (sC_len ys) (fun j z hj => by
      have hlt := (List.getElem?_eq_some_iff.1 hj).1
      rw [sC_len] at hlt
      have hi : j / 3 < ys.length := by omega
      obtain ⟨b, off, e, hb, c0, c1, c2⟩ := hm.2 (j / 3) ys[j / 3] (List.getElem?_eq_getElem hi)
      cases e
      have hg := sC_get ys (j / 3) ys[j / 3] (List.getElem?_eq_getElem hi) (j % 3) (Nat.mod_lt _ (by omega))
      rw [show j / 3 * 3 + j % 3 = j by omega, hj] at hg
      rw [Addr.add_mid]
      have h3 : j % 3 = 0 ∨ j % 3 = 1 ∨ j % 3 = 2 := by omega
      rcases h3 with h3 | h3 | h3
      · rw [show off + j = off + j / 3 * 3 by omega, c0]
        simp only [h3, List.getElem_cons_zero] at hg
        exact hg.symm
      · rw [show off + j = off + j / 3 * 3 + 1 by omega, c1]
        simp only [h3, List.getElem_cons_zero, List.getElem_cons_succ] at hg
        exact hg.symm
      · rw [show off + j = off + j / 3 * 3 + 2 by omega, c2]
        simp only [h3, List.getElem_cons_zero, List.getElem_cons_succ] at hg
        exact hg.symm) (sC_one ys) (by unfold maxLen; omega) (by omega) hk
    exact ⟨v', w', hap, by rw [List.length_append, sC_app]; exact z1, z2, z4⟩
/-- Elements as a row of cells. -/
def iC (L : List (ByteArray × ByteArray × ByteArray)) : List Value := L.flatMap fun x => [.string x.1, .string x.2.1, .string x.2.2]
theorem iC_app (A B : List (ByteArray × ByteArray × ByteArray)) : iC (A ++ B) = iC A ++ iC B := by simp [iC]
theorem iC_len (L : List (ByteArray × ByteArray × ByteArray)) : (iC L).length = L.length * 3 := by
  induction L with
  | nil => rfl
  | cons x L ih =>
    have e : iC (x :: L) = [.string x.1, .string x.2.1, .string x.2.2] ++ iC L := rfl
    rw [e, List.length_append, ih]
    simp
    omega
theorem iC_get : ∀ (L : List (ByteArray × ByteArray × ByteArray)) (i : Nat) (x : ByteArray × ByteArray × ByteArray), L[i]? = some x → ∀ j (h : j < 3), (iC L)[i * 3 + j]? = some ([.string x.1, .string x.2.1, .string x.2.2][j]'h)
  | [], i, x, h => by simp at h
  | y :: L, 0, x, h => by
    simp at h
    subst h
    intro j hj
    have e : iC (y :: L) = [.string y.1, .string y.2.1, .string y.2.2] ++ iC L := rfl
    rw [e, List.getElem?_append_left (by simp; omega), Nat.zero_mul, Nat.zero_add, List.getElem?_eq_getElem]
  | y :: L, i + 1, x, h => by
    intro j hj
    have ih := iC_get L i x (by simpa using h) j hj
    have e : iC (y :: L) = [.string y.1, .string y.2.1, .string y.2.2] ++ iC L := rfl
    rw [e, List.getElem?_append_right (by simp; omega)]
    show (iC L)[(i + 1) * 3 + j - 3]? = _
    rw [show (i + 1) * 3 + j - 3 = i * 3 + j by omega]
    exact ih
theorem iC_one (L : List (ByteArray × ByteArray × ByteArray)) : ∀ v ∈ iC L, v.oneCell' = true := by
  intro v hv
  obtain ⟨x, _, hx⟩ := List.mem_flatMap.1 hv
  simp at hx
  rcases hx with rfl | rfl | rfl <;> rfl
/-- A row of one's own is read. -/
theorem own_i {W : World} {base : Nat} {v : Value} {L : List (ByteArray × ByteArray × ByteArray)} (h : W.ownsRow base 61 3 v L.length (iC L)) (hl : L.length ≤ 1000000) : ∃ ao cap, v = .slice ao L.length cap ∧ ItMem W.heap.size W ao L ∧ L.length ≤ cap ∧ cap ≤ maxLen ∧ ∀ a, ao = some a → base ≤ a.block ∧ a.off = 0 := by
  obtain ⟨h1, ⟨rfl, h2⟩ | ⟨g, cap, cur, rfl, x1, x2, x3, x4, x5, x6⟩⟩ := h
  · obtain rfl : L = [] := List.length_eq_zero_iff.1 h2
    exact ⟨none, 0, rfl, ⟨by simp, fun k x hk => by simp at hk⟩, by simp, by simp, fun a e => by cases e⟩
  · refine ⟨_, cap, rfl, ⟨hl, fun k x hk => ?_⟩, x3, x4, fun a e => by cases e; exact ⟨x1, rfl⟩⟩
    have hlt := (List.getElem?_eq_some_iff.1 hk).1
    have e := iC_get L k x hk
    have e0 := e 0 (by omega)
    rw [← x6, List.getElem?_take_of_lt (by omega)] at e0
    have e1 := e 1 (by omega)
    rw [← x6, List.getElem?_take_of_lt (by omega)] at e1
    have e2 := e 2 (by omega)
    rw [← x6, List.getElem?_take_of_lt (by omega)] at e2
    simp only [List.getElem_cons_zero, List.getElem_cons_succ] at e0 e1 e2
    refine ⟨g, 0, rfl, (Array.getElem?_eq_some_iff.1 x2).1, ?_, ?_, ?_⟩
    · rw [cell_of_row W g _ _ _ _ x2, Nat.zero_add]
      simpa using e0
    · rw [cell_of_row W g _ _ _ _ x2, Nat.zero_add]
      simpa using e1
    · rw [cell_of_row W g _ _ _ _ x2, Nat.zero_add]
      simpa using e2
set_option maxRecDepth 100000 in
theorem app_i {W : World} {k : Nat} {v : Value} {xs ys : List (ByteArray × ByteArray × ByteArray)} {ao : Option Addr} {cap : Nat} {T : TypeId} (hv : W.ownsRow k 61 3 v xs.length (iC xs)) (hm : ItMem W.heap.size W ao ys) (hk : k ≤ W.heap.size) (hs : xs.length + ys.length ≤ 2000000) :
    ∃ v' w', (Builtin.append_ #[25, 25] T #[v, .slice ao ys.length cap]).run Tryz.prog W = .ok v' w' ∧ w'.ownsRow k 61 3 v' (xs ++ ys).length (iC (xs ++ ys)) ∧ W.grownBy w' v.ownBlock ∧ (v'.ownBlock = v.ownBlock ∨ v'.ownBlock = some W.heap.size) := by
  obtain ⟨ti, t1, t2, t3, t4⟩ := info_parts infoItem
  cases ao with
  | none =>
    have hl : ys = [] := by
      cases ys with
      | nil => rfl
      | cons y ys =>
        obtain ⟨b, off, e, _⟩ := hm.2 0 y rfl
        cases e
    subst hl
    refine ⟨v, W, ?_, by simpa using hv, World.grownBy.refl _ _, .inl rfl⟩
    obtain ⟨_, ⟨rfl, h2'⟩ | ⟨g, c, cur, rfl, _, _, hnc, _⟩⟩ := hv
    · simp [Builtin.append_, run_underlying Tryz.underlying25, sizeOf, typeInfo, t1, Builtin.lenOf, Builtin.firstCells]
    · simp [Builtin.append_, run_underlying Tryz.underlying25, sizeOf, typeInfo, t1, Builtin.lenOf, Builtin.firstCells, hnc, storeCells]
  | some a =>
    have hab : ys = [] ∨ ∃ b off, a = ⟨b, off, none⟩ := by
      cases ys with
      | nil => exact .inl rfl
      | cons y ys =>
        obtain ⟨b, off, e, _⟩ := hm.2 0 y rfl
        cases e
        exact .inr ⟨b, off, rfl⟩
    obtain ⟨v', w', hap, z1, z2, _, z4⟩ := run_append_own_at (P := Tryz.prog) W k 25 T 61 ti _ 3 48 Tryz.underlying25 t1 t2 t3 t4 rfl (by omega) v xs.length (iC xs) hv a ys.length cap (iC ys) (iC_len ys) (fun j z hj => by
      have hlt := (List.getElem?_eq_some_iff.1 hj).1
      rw [iC_len] at hlt
      have hi : j / 3 < ys.length := by omega
      obtain ⟨b, off, e, hb, c0, c1, c2⟩ := hm.2 (j / 3) ys[j / 3] (List.getElem?_eq_getElem hi)
      cases e
      have hg := iC_get ys (j / 3) ys[j / 3] (List.getElem?_eq_getElem hi) (j % 3) (Nat.mod_lt _ (by omega))
      rw [show j / 3 * 3 + j % 3 = j by omega, hj] at hg
      rw [Addr.add_mid]
      have h3 : j % 3 = 0 ∨ j % 3 = 1 ∨ j % 3 = 2 := by omega
      rcases h3 with h3 | h3 | h3
      · rw [show off + j = off + j / 3 * 3 by omega, c0]
        simp only [h3, List.getElem_cons_zero] at hg
        exact hg.symm
      · rw [show off + j = off + j / 3 * 3 + 1 by omega, c1]
        simp only [h3, List.getElem_cons_zero, List.getElem_cons_succ] at hg
        exact hg.symm
      · rw [show off + j = off + j / 3 * 3 + 2 by omega, c2]
        simp only [h3, List.getElem_cons_zero, List.getElem_cons_succ] at hg
        exact hg.symm) (iC_one ys) (by unfold maxLen; omega) (by omega) hk
    exact ⟨v', w', hap, by rw [List.length_append, iC_app]; exact z1, z2, z4⟩
end Go.Proofs.YtimhkgpjfppkmaaGreatDoor
