/- Lists of texts: cut, put behind one another, copied, compared. -/
import Derived.Test.YtllpblnbdocfjadA1
import Derived.Deep.QuietTactic
import Derived.BigQuiet
namespace Go.Proofs.Ytllpblnbdocfjad
open Go.RowKit

theorem stopHere {p : Prop} (h : Hid p) : p := h
theorem undS : Try.prog.underlying 25 = some (.slice 9) := by kernel_rfl
/-- A part of a list. -/
theorem lst_cut {w : World} {M : Blk} {ga : Option Addr} {n gc lo hi mx : Nat} {l : List ByteArray} (h : Lst w M (.slice ga n gc) l) (h1 : lo ≤ hi) (h2 : hi ≤ l.length) (h3 : hi ≤ mx) : Lst w M (sliced ga lo hi mx 1) ((l.take hi).drop lo) := by
  obtain ⟨ao, cap, e, hx⟩ := h
  cases e
  refine ⟨_, _, by unfold sliced; congr 1; simp; omega, fun j s hj => ?_⟩
  have hlt := (List.getElem?_eq_some_iff.1 hj).1
  simp at hlt
  rw [List.getElem?_drop, List.getElem?_take_of_lt (by omega)] at hj
  obtain ⟨b, off, rfl, y1, y2, y3⟩ := hx (lo + j) s hj
  refine ⟨b, off + lo, ?_, y1, y2, by rw [Nat.add_assoc]; exact y3⟩
  rw [if_neg (by omega)]
  simp [Addr.add]
/-- A list is put behind a row of one's own. -/
theorem append_lst {W : World} {k : Nat} {v r : Value} {xs l : List ByteArray} {M : Blk} {T : TypeId} (hv : W.ownsRow k 9 1 v xs.length (strC xs)) (hr : Lst W M r l) (hk : k ≤ W.heap.size) (hs : xs.length + l.length ≤ 1000000) :
    ∃ v' w', (Builtin.append_ #[25, 25] T #[v, r]).run Try.prog W = .ok v' w' ∧ w'.ownsRow k 9 1 v' (xs ++ l).length (strC (xs ++ l)) ∧ W.grownBy w' v.ownBlock ∧ (v'.ownBlock = v.ownBlock ∨ v'.ownBlock = some W.heap.size) := by
  obtain ⟨ti, t1, t2, t3, t4⟩ := info_parts info9
  obtain ⟨ao, cap, rfl, hx⟩ := hr
  cases ao with
  | none =>
    have hl : l = [] := by
      cases l with
      | nil => rfl
      | cons s l => obtain ⟨b, off, h, _⟩ := hx 0 s rfl; cases h
    subst hl
    refine ⟨v, W, ?_, by simpa using hv, World.grownBy.refl _ _, .inl rfl⟩
    obtain ⟨_, ⟨rfl, h2⟩ | ⟨g, c, cur, rfl, _, _, hnc, _⟩⟩ := hv
    · simp [Builtin.append_, run_underlying undS, sizeOf, typeInfo, t1, Builtin.lenOf, Builtin.firstCells]
    · simp [Builtin.append_, run_underlying undS, sizeOf, typeInfo, t1, Builtin.lenOf, Builtin.firstCells, hnc, storeCells]
  | some a =>
    obtain ⟨v', w', hap, y1, y2, _, y4⟩ := run_append_own_at (P := Try.prog) W k 25 T 9 ti _ 1 16 undS t1 t2 t3 t4 rfl (by omega) v xs.length (strC xs) hv a l.length cap (strC l) (by simp [strC]) (fun j u hj => by
      simp only [strC, List.getElem?_map, Option.map_eq_some_iff] at hj
      obtain ⟨s, hs, rfl⟩ := hj
      obtain ⟨b, off, e, _, _, h3⟩ := hx j s hs
      cases e
      rw [Addr.add_mid]
      exact h3) (strC_one l) (by unfold maxLen; omega) (by omega) hk
    refine ⟨v', w', hap, ?_, y2, y4⟩
    rw [show (strC (xs ++ l)) = strC xs ++ strC l by simp [strC], List.length_append]
    exact y1
theorem run_none9 (w : World) : (Instr.buildSlice 25 0 #[]).run Try.prog w = .ok (.slice (some ⟨w.heap.size, 0, none⟩) 0 0) (w.alloc (.cells #[] 9)) := by
  obtain ⟨ti, t1, t2, t3, t4⟩ := info_parts info9
  unfold Instr.buildSlice
  simp only [Sem.run_bind, run_underlying undS, Result.andThen_ok]
  simp [sizeOf, typeInfo, t1, newRow, Instr.fill, Array.range_zero']
theorem ex_slice {o : Oper} {a : Act} {w w' : World} {T : TypeId} {n : Nat} {ps : Array (Nat × Operand)} {v : Value} {us : Array (Nat × Value)} (ho : o.op = .buildSlice T n ps) (hp : (ps.map fun x => (x.1, a.eval x.2)) = us) (hr : (Instr.buildSlice T n us).run Try.prog w = .ok v w') : (execOp a.eval o).run Try.prog w = .ok (.value v) w' := by
  unfold execOp
  simp only [ho]
  rw [show (ps.map fun (i, x) => (i, a.eval x)) = us from hp]
  simp [hr]
theorem ex_append {o : Oper} {a : Act} {w w' : World} {s x : Operand} {t : TypeId} {u v r : Value} (ho : o.op = .call { callee := .builtin .append, args := #[s, x], argTypes := #[t, t] }) (hs : a.eval s = u) (hx : a.eval x = v) (hr : (Builtin.append_ #[t, t] o.type #[u, v]).run Try.prog w = .ok r w') : (execOp a.eval o).run Try.prog w = .ok (.value r) w' := by
  simp [execOp, ho, resolve, invoke, builtin, hs, hx, hr, Result.andThen]
/-- An empty row, and all of a list behind it: a copy, in blocks of its own. -/
theorem copied {w : World} {M : Blk} {r : Value} {l : List ByteArray} {T : TypeId} (hr : Lst w M r l) (hs : l.length ≤ 1000000) :
    ∃ v' w', (Builtin.append_ #[25, 25] T #[.slice (some ⟨w.heap.size, 0, none⟩) 0 0, r]).run Try.prog (w.alloc (.cells #[] 9)) = .ok v' w' ∧ w'.ownsRow w.heap.size 9 1 v' l.length (strC l) ∧ Below w.heap.size w w' := by
  have hB : Below w.heap.size w (w.alloc (.cells #[] 9)) := (Below.refl _ w).alloc (Nat.le_refl _) _
  obtain ⟨v', w', h1, h2, h3, h4⟩ := append_lst (T := T) (xs := []) (own_empty w w.heap.size 9 1 (Nat.le_refl _)) (hr.below hB) hB.size (by simpa using hs)
  exact ⟨v', w', h1, by simpa using h2, hB.grown h3 hB.size (fun k e => by cases e; exact Nat.le_refl _)⟩
theorem lst_shape {w : World} {M : Blk} {r : Value} {l : List ByteArray} (h : Lst w M r l) : ∃ ga gc, r = .slice ga l.length gc := by
  obtain ⟨ao, cap, rfl, _⟩ := h
  exact ⟨_, _, rfl⟩
set_option maxRecDepth 100000 in
theorem clone_any (M : Blk) (ga : Option Addr) (gc : Nat) (l : List ByteArray) (w : World) (h : Lst w M (.slice ga l.length gc) l) (hs : l.length ≤ 1000000) :
    Calls Try.prog 13 #[.slice ga l.length gc] w fun e w' => ∃ v', e = .returned v' ∧ w'.ownsRow w.heap.size 9 1 v' l.length (strC l) ∧ Below w.heap.size w w' := by
  have q22 : ∀ (w : World) (a : Option Addr) (n c n' c' : Nat), (binOp .eql 25 (.slice a n c) (.slice none n' c')).run Try.prog w = .ok (.bool a.isNone) w := fun w a n c n' c' => Lib.run_eql_slice_nil w _ _ a n c n' c' undS
  obtain ⟨v', w', h1, h2, h3⟩ := copied (T := 25) h hs
  obtain ⟨W, hW⟩ : ∃ W, w.alloc (.cells #[] 9) = W := ⟨_, rfl⟩
  rw [hW] at h1
  rcases Option.eq_none_or_eq_some ga with rfl | ⟨g, rfl⟩
  · have hl : l = [] := by
      obtain ⟨_, _, e, hx⟩ := h
      cases e
      cases l with
      | nil => rfl
      | cons s l => obtain ⟨b, off, h, _⟩ := hx 0 s rfl; cases h
    subst hl
    clear h h1 h2 h3
    go_enter Try.func13, Try.ntmps13
    go_wp2_with fail
    go_ret
    exact ⟨_, rfl, World.ownsRow_nil _ _ _ _, Below.refl _ _⟩
  · have HA := hide h1
    have HY := hide (And.intro h2 h3)
    clear h h1 h2 h3
    go_enter Try.func13, Try.ntmps13
    go_wp2_with (first | (refine l_val rfl _ (ex_slice (us := #[]) rfl rfl (run_none9 w)) ?_; rw [hW]) | (at_builtin; refine l_val rfl _ (ex_append (t := 25) rfl rfl rfl HA.out) ?_))
    go_ret
    exact ⟨_, rfl, HY.out.1, HY.out.2⟩
/-- What waits: a copy. -/
theorem waiting_any (base p : Nat) (q : Qs) (v : Value) (w : World) (h : IsP base p q v w) (hq : QOk q) :
    Calls Try.prog 11 #[.pointer (some ⟨p, 0, none⟩)] w fun e w' => ∃ r, e = .returned r ∧ w'.ownsRow w.heap.size 9 1 r q.l.length (strC q.l) ∧ Below w.heap.size w w' := by
  obtain ⟨c0, c1, c2, _⟩ := cellsP h
  obtain ⟨ga, gc, rfl⟩ := own_shape h.row
  have HC := hide (clone_any (fun _ => False) ga gc q.l w (own_lst h.row (fun _ _ x => x)) (by have := hq.few; omega))
  clear h hq
  go_enter Try.func11, Try.ntmps11
  go_wp2_with (go_at_call 13; refine HC.out.mono ?_; rintro e w1 ⟨r, rfl, h1, h2⟩)
  go_ret
  exact ⟨_, rfl, h1, h2⟩
theorem below_drewN {B : Nat} {a w : World} (h : Below B a w) (n : Nat) : Below B a (w.drewN n) := ⟨h.os, h.tape, h.output, h.size, h.block⟩
end Go.Proofs.Ytllpblnbdocfjad
