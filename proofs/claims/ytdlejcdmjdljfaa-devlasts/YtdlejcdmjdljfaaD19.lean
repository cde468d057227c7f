/- What the laws of the device lean on. -/
import Derived.Test.YtdlejcdmjdljfaaD17
namespace Go.Proofs.Ytdlejcdmjdljfaa
open Go.RowKit Go.Shelf

theorem refKeep {base base' p q : Nat} {d d1 d2 : Dv} {vl vw ul uw : Value} {w w1 : World} (h : IsD base p d vl vw w) (hr : IsR base' q d2 ul uw w) (t : ToD base p vl vw d1 w w1) : IsR base' q d2 ul uw w1 :=
  hr.apart (toD_frees t) fun j hq hp => foot_apart h hr (by decide) (by decide) (by decide) (by decide) (by decide) (by decide) (by decide) (by decide) (by decide) j hp hq
theorem devKeep {base base' p q : Nat} {d d1 d2 : Dv} {vl vw ul uw : Value} {w w1 : World} (h : IsD base p d vl vw w) (hr : IsR base' q d2 ul uw w) (t : ToR base' q ul uw d1 w w1) : IsD base p d vl vw w1 :=
  h.apart (toR_frees t) fun j hp hq => foot_apart h hr (by decide) (by decide) (by decide) (by decide) (by decide) (by decide) (by decide) (by decide) (by decide) j hp hq
theorem toR_is {base p : Nat} {vl vw : Value} {d' : Dv} {w w' : World} (h : ToR base p vl vw d' w w') : ∃ vl' vw', IsR base p d' vl' vw' w' := by
  obtain ⟨a, b, t, _⟩ := h
  exact ⟨a, b, t⟩
theorem toR_size {base p : Nat} {vl vw : Value} {d' : Dv} {w w' : World} (h : ToR base p vl vw d' w w') : w.heap.size ≤ w'.heap.size := (toR_frees h).below.size
theorem settled_twice (d : Dv) (a b : Nat → Bool) : settled (settled d a) b = settled d a := rfl
theorem landAt_congr {d : Dv} {a b : Nat → Bool} : ∀ k, (∀ j, j < k → a j = b j) → landAt d a k = landAt d b k
  | 0, _ => rfl
  | k + 1, h => by
    have ih := landAt_congr (d := d) k (fun j hj => h j (by omega))
    simp only [landAt, ih, h k (by omega)]
theorem settled_congr {d : Dv} {a b : Nat → Bool} (h : ∀ j, j < d.wr.length → a j = b j) : settled d a = settled d b := by
  unfold settled
  rw [landAt_congr _ h]
/-- An operation under a guard that says yes. -/
theorem g_val {ops : Array Oper} {rest : List Oper} {o : Oper} {a : Act} {w w' : World} {Q : Exit → Act → World → Prop} (hw : Region.wanted o (yielded ops a.tmps) = true) (v : Value) (hr : (execOp a.eval o).run Try.prog w = .ok (.value v) w') (h : wpList Try.prog ops Q rest (a.put o.dst v) w') : wpList Try.prog ops Q (o :: rest) a w :=
  BigFrame.wpList_want hw fun K hK => by
    unfold Oper.wp
    rw [hr]
    exact hK _ _ h
theorem sec_guard {T : TypeId} (hT : Try.prog.eqGuardType Try.prog.depth T = false) (x y : Operand) (a b : Array Value) (w : World) : (eqGuard .eql T x y (.agg a) (.agg b)).run Try.prog w = .ok () w := by
  unfold eqGuard
  simp [hT, go_sem]
theorem ex_eql {o : Oper} {a : Act} {w : World} {T T' : TypeId} {x y : Operand} {u v : Array Value} {r : Value} (ho : o.op = .binOp .eql T x y T') (hx : a.eval x = .agg u) (hy : a.eval y = .agg v) (hT : Try.prog.eqGuardType Try.prog.depth T = false) (hr : (binOp .eql T (.agg u) (.agg v)).run Try.prog w = .ok r w) : (execOp a.eval o).run Try.prog w = .ok (.value r) w := by
  unfold execOp
  simp only [ho, hx, hy]
  simp only [Sem.run_bind, sec_guard hT, hr, Result.andThen_ok, Sem.run_pure]
end Go.Proofs.Ytdlejcdmjdljfaa
