/- Single operations on edges, for regions that draw. -/
import Derived.Test.YtlafjddidlofcaaC14
namespace Go.Proofs.Ytlafjddidlofcaa
open Go.RowKit Go.Shelf

theorem run_load_cell {T : TypeId} {d : TypeDesc} {w : World} {b i : Nat} {v : Value} (hu : Try.prog.underlying T = some d) (hd : d.isRow = false) (hc : w.cell? ⟨b, i, none⟩ = some v) : (Instr.loadAt T (.pointer (some ⟨b, i, none⟩))).run Try.prog w = .ok v w := by
  have ha : (isAgg T).run Try.prog w = .ok false w := by
    unfold isAgg
    rw [Sem.run_bind, run_underlying hu w]
    cases d <;> simp_all
  simp [Instr.loadAt, Instr.sureAddr, loadVar, ha, hc, go_sem]
theorem ex_index {o : Oper} {a : Act} {w : World} {x y : Operand} {b off m cap k : Nat} (ho : o.op = .indexAddr 22 x y) (hx : a.eval x = .slice (some ⟨b, off, none⟩) m cap) (hy : a.eval y = .int .i64 k) (hk : k < m) : (execOp a.eval o).run Try.prog w = .ok (.value (.pointer (some ⟨b, off + k * 2, none⟩))) w := by
  have hk1 : (k : Int) < m := by omega
  unfold execOp
  simp only [ho, hx, hy]
  go_simp
theorem ex_field {o : Oper} {a : Act} {w : World} {x : Operand} {b off : Nat} (ho : o.op = .fieldAddr 47 x 0) (hx : a.eval x = .pointer (some ⟨b, off, none⟩)) : (execOp a.eval o).run Try.prog w = .ok (.value (.pointer (some ⟨b, off, none⟩))) w := by
  unfold execOp
  simp only [ho, hx]
  go_simp
end Go.Proofs.Ytlafjddidlofcaa
