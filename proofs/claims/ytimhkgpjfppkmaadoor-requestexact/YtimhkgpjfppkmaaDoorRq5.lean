/- A request's attributes: one more. -/
import Derived.Test.YtimhkgpjfppkmaaDoorRq3
import Derived.Test.YtimhkgpjfppkmaaDoorRq2
import Derived.Test.YtimhkgpjfppkmaaDoorElem
import Derived.Test.YtimhkgpjfppkmaaDoorGD
namespace Go.Proofs.YtimhkgpjfppkmaaDoor
open Go.RowKit Go.Shelf

theorem op_callc {P : Program} {ops : Array Oper} {Q : Exit → Act → World → Prop} {i f : Nat} {o : Oper} {a : Act} {w : World} {K : Act → World → Prop} {x : Operand} {args : Array Operand} {tys : Array TypeId} {R : Ending → World → Prop} {cs : Array Value} (hi : ops[i]? = some o) (dst : Option Tmp) (hdst : o.dst = dst) (hw : Region.wanted o (yielded ops a.tmps) = true) (vs : Array Value)
    (hop : o.op = .call { callee := .value x, args := args, argTypes := tys }) (hx : a.eval x = .func (.func f) #[] cs) (hvs : args.map a.eval = vs) (hgo : ∀ xs V, (callFunc f xs).run P V = .ok (.enter f xs) V) (hC : Calls P f (vs ++ cs) w R) (hK : ∀ e w', R e w' → ∃ v, e = .returned v ∧ K (a.put dst v) w') : wpOp P ops Q i K a w := by
  subst hdst
  unfold wpOp
  simp only [hi, hw, if_true]
  refine .inl ?_
  unfold Oper.wp
  simp only [execOp, hop, resolve, hx, hvs]
  simp [invoke, hgo, Oper.upon, Deferred.ofValue, go_sem]
  refine hC.mono ?_
  intro e w' hR
  obtain ⟨u, rfl, hk⟩ := hK e w' hR
  exact hk
theorem ex_sliceK {o : Oper} {a : Act} {w w' : World} {T : TypeId} {n : Nat} {ps : Array (Nat × Operand)} {v : Value} {us : Array (Nat × Value)} (ho : o.op = .buildSlice T n ps) (hp : (ps.map fun x => (x.1, a.eval x.2)) = us) (hr : (Instr.buildSlice T n us).run Tryd.prog w = .ok v w') : (execOp a.eval o).run Tryd.prog w = .ok (.value v) w' := by
  unfold execOp
  simp only [ho]
  rw [show (ps.map fun (i, x) => (i, a.eval x)) = us from hp]
  simp [hr]
theorem ex_appN {o : Oper} {a : Act} {w w' : World} {s x : Operand} {t t' : TypeId} {u v r : Value} (ho : o.op = .call { callee := .builtin .append, args := #[s, x], argTypes := #[t, t'] }) (hs : a.eval s = u) (hx : a.eval x = v) (hr : (Builtin.append_ #[t, t'] o.type #[u, v]).run Tryd.prog w = .ok r w') : (execOp a.eval o).run Tryd.prog w = .ok (.value r) w' := by
  simp [execOp, ho, resolve, invoke, builtin, hs, hx, hr, Result.andThen]
theorem results_no {fn : Func} {tmps : Array Value} {w : World} (h : fn.results = #[]) : (results fn tmps).run Tryd.prog w = .ok (.tuple #[]) w := by
  simp [results, h, go_sem]
theorem attrCells_app (a b : List (ByteArray × ByteArray)) : attrCells (a ++ b) = attrCells a ++ attrCells b := by simp [attrCells]
set_option maxRecDepth 100000 in
/-- An attribute behind a row of one's own. -/
theorem pushA {wr : World} {base : Nat} {v : Value} {al : List (ByteArray × ByteArray)} {T : TypeId} (nm s : ByteArray) (hrow : wr.ownsRow base 49 2 v al.length (attrCells al)) (hb : base ≤ wr.heap.size) (hk : al.length ≤ 100000) :
    ∃ ga gc w4, (Builtin.append_ #[44, 44] T #[v, .slice (some ⟨wr.heap.size, 0, none⟩) 1 1]).run Tryd.prog (wr.alloc (.cells #[.string nm, .string s] 49)) = .ok (.slice ga (al ++ [(nm, s)]).length gc) w4 ∧ w4.ownsRow base 49 2 (.slice ga (al ++ [(nm, s)]).length gc) (al ++ [(nm, s)]).length (attrCells (al ++ [(nm, s)])) ∧ Below base wr w4 := by
  have hB3 : Below wr.heap.size wr (wr.alloc (.cells #[.string nm, .string s] 49)) := (Below.refl _ wr).alloc (Nat.le_refl _) _
  have hcell := World.alloc_heap_new wr (.cells #[.string nm, .string s] 49)
  obtain ⟨ti, t1, t2, t3, t4⟩ := info_parts infoAttr
  have hz3 := hB3.size
  obtain ⟨v', w4, hap, q1, q2, _, _⟩ := run_append_own_at (P := Tryd.prog) (wr.alloc (.cells #[.string nm, .string s] 49)) base 44 T 49 ti _ 2 32 Tryd.underlying44 t1 t2 t3 t4 rfl (by omega) v al.length (attrCells al) (own_same hrow (fun g e => hB3.block g (own_lt hrow g e))) ⟨wr.heap.size, 0, none⟩ 1 1 [.string nm, .string s] rfl (fun j u hj => by
      match j, hj with
      | 0, hj => simp at hj; subst hj; rw [Addr.add_mid]; simp only [World.cell?, hcell]; rfl
      | 1, hj => simp at hj; subst hj; rw [Addr.add_mid]; simp only [World.cell?, hcell]; rfl
      | j + 2, hj => simp at hj) (fun u hu => by
      simp at hu
      rcases hu with rfl | rfl <;> rfl) (by unfold maxLen; omega) (by omega) (by omega)
  have hB4 : Below base wr w4 := (hB3.mono hb).grown q2 (by omega) (fun r e => own_base hrow r e)
  have htk : attrCells (al ++ [(nm, s)]) = attrCells al ++ [Value.string nm, .string s] := by rw [attrCells_app]; rfl
  have hln : (al ++ [(nm, s)]).length = al.length + 1 := by simp
  rw [htk, hln]
  obtain ⟨hq1, hq2⟩ := id q1
  rcases hq2 with ⟨rfl, hz⟩ | ⟨g, cap, cur, rfl, _⟩
  · exact absurd hz (by omega)
  · exact ⟨_, _, w4, hap, q1, hB4⟩
/-- One attribute more, if it is named. -/
def addL (b : Bool) (nm s : ByteArray) (al : List (ByteArray × ByteArray)) : List (ByteArray × ByteArray) := al ++ (if b = true then [(nm, s)] else [])
/-- Attributes in a cell, in a row of one's own behind it. -/
def AtP (lb : Nat) (al : List (ByteArray × ByteArray)) (w : World) : Prop := ∃ ga gc, w.heap[lb]? = some (.cells #[.slice ga al.length gc] 44) ∧ w.ownsRow (lb + 1) 49 2 (.slice ga al.length gc) al.length (attrCells al)
theorem AtP.below {lb : Nat} {al : List (ByteArray × ByteArray)} {w w' : World} (h : AtP lb al w) (hb : Below w.heap.size w w') : AtP lb al w' := by
  obtain ⟨ga, gc, h1, h2⟩ := h
  exact ⟨ga, gc, (hb.block _ (Array.getElem?_eq_some_iff.1 h1).1).trans h1, own_same h2 (fun g e => hb.block g (own_lt h2 g e))⟩
set_option maxRecDepth 100000 in
set_option maxHeartbeats 2000000 in
theorem add_any (b : Bool) (nm s : ByteArray) (lb : Nat) (al : List (ByteArray × ByteArray)) (w : World) (h : AtP lb al w) (hn : al.length ≤ 100) :
    Calls Tryd.prog 35 #[.bool b, .string nm, .string s, .pointer (some ⟨lb, 0, none⟩)] w fun e w' => e = .returned (.tuple #[]) ∧ AtP lb (addL b nm s al) w' ∧ Below lb w w' := by
  obtain ⟨ga, gc, hl, ho⟩ := h
  have hlb := (Array.getElem?_eq_some_iff.1 hl).1
  cases b with
  | false =>
    have H := hide (show AtP lb (addL false nm s al) w from ⟨ga, gc, by unfold addL; simpa using hl, by unfold addL; simpa using ho⟩)
    clear hl ho
    go_enter Tryd.func35, Tryd.ntmps35
    go_wp2_with fail
    exact bodyPost_end (results_no rfl) rfl ⟨rfl, H.out, Below.refl _ _⟩
  | true =>
    obtain ⟨g2, c2, w4, hap, hown, hbel⟩ := pushA (T := 44) nm s ho (by omega) (by omega)
    obtain ⟨n, hn1⟩ : ∃ n, (al ++ [(nm, s)]).length = n := ⟨_, rfl⟩
    rw [hn1] at hap
    have c0 : w.cell? ⟨lb, 0, none⟩ = some (.slice ga al.length gc) := by simp [World.cell?, hl]
    have f4 := (hbel.block lb (by omega)).trans hl
    have c4 : w4.cell? ⟨lb, 0, none⟩ = some (.slice ga al.length gc) := by simp [World.cell?, f4]
    have z4 : w4.frozen? ⟨lb, 0, none⟩ = false := by simp [World.frozen?, f4]
    have hbs : (Instr.buildSlice 44 1 #[(0, .agg #[.string nm, .string s])]).run Tryd.prog w = .ok (.slice (some ⟨w.heap.size, 0, none⟩) 1 1) (w.alloc (.cells #[.string nm, .string s] 49)) := by kernel_rfl
    have hP : AtP lb (addL true nm s al) (w4.setCell ⟨lb, 0, none⟩ (.slice g2 n c2)) := by
      have e : addL true nm s al = al ++ [(nm, s)] := rfl
      rw [e, ← hn1]
      refine ⟨g2, c2, at_setQ f4, own_same hown (fun g e => ?_)⟩
      have hg := own_base hown g e
      rw [Below.heap_setCell _ _ _ _ (fun e2 => by have e3 : g = lb := e2; omega)]
    have hB : Below lb w (w4.setCell ⟨lb, 0, none⟩ (.slice g2 n c2)) := (show Below lb w w4 from hbel.mono (by omega)).setCell (p := ⟨lb, 0, none⟩) (Nat.le_refl _) _
    have H := hide (And.intro hP hB)
    clear hl ho f4 hown hbel hP hB hn1
    go_enter Tryd.func35, Tryd.ntmps35
    go_wp2_with (first | refine l_val rfl _ (ex_sliceK (us := #[(0, .agg #[.string nm, .string s])]) rfl (by simp [Act.eval]) hbs) ?_ | refine l_val rfl _ (ex_appN rfl rfl rfl hap) ?_)
    exact bodyPost_end (results_no rfl) rfl ⟨rfl, H.out.1, H.out.2⟩
end Go.Proofs.YtimhkgpjfppkmaaDoor
