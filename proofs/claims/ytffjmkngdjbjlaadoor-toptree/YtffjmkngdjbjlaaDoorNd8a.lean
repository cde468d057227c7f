/- Fan: operations of its round. -/
import Derived.Test.YtffjmkngdjbjlaaDoorNd4
import Derived.Test.YtffjmkngdjbjlaaDoorNd7
import Derived.Test.YtffjmkngdjbjlaaDoorQG
namespace Go.Proofs.YtffjmkngdjbjlaaDoor
open Go.RowKit Go.Shelf

theorem infoNd : (Tryd.prog.info? 28).map (fun i => (i.zero, i.size, i.bytes)) = some (some (.agg #[.string ⟨#[]⟩, .bool false, .int .u8 0, .int .i64 0, .slice none 0 0, .slice none 0 0, .slice none 0 0, .string ⟨#[]⟩]), 8, 120) := by kernel_rfl
theorem load_nd {w : World} {b : Nat} {n : Nd} {v : NdW} (h : w.heap[b]? = some (.cells (ndA n v) 28)) : (Instr.loadAt 28 (.pointer (some ⟨b, 0, none⟩))).run Tryd.prog w = .ok (.agg (ndA n v)) w := run_load_row infoNd Tryd.underlying28 rfl rfl h
theorem load_sl {w : World} {b : Nat} {v : Value} (hc : w.cell? ⟨b, 0, none⟩ = some v) : (Instr.loadAt 47 (.pointer (some ⟨b, 0, none⟩))).run Tryd.prog w = .ok v w := by
  have ha : (isAgg 47).run Tryd.prog w = .ok false w := by
    unfold isAgg
    rw [Sem.run_bind, run_underlying Tryd.underlying47 w]
    simp
  simp [Instr.loadAt, Instr.sureAddr, loadVar, ha, hc, go_sem]
theorem store_sl {w : World} {b : Nat} {v : Value} {ga : Option Addr} {n gc : Nat} (hc : w.cell? ⟨b, 0, none⟩ = some v) (hf : w.frozen? ⟨b, 0, none⟩ = false) : (Instr.storeAt 47 (.pointer (some ⟨b, 0, none⟩)) (.slice ga n gc)).run Tryd.prog w = .ok () (w.setCell ⟨b, 0, none⟩ (.slice ga n gc)) := by
  simp [Instr.storeAt, Instr.sureAddr, storeVar, hc, hf, go_sem]
theorem ex_app {o : Oper} {a : Act} {w w' : World} {s x : Operand} {t t' : TypeId} {u v r : Value} (ho : o.op = .call { callee := .builtin .append, args := #[s, x], argTypes := #[t, t'] }) (hs : a.eval s = u) (hx : a.eval x = v) (hr : (Builtin.append_ #[t, t'] o.type #[u, v]).run Tryd.prog w = .ok r w') : (execOp a.eval o).run Tryd.prog w = .ok (.value r) w' := by
  simp [execOp, ho, resolve, invoke, builtin, hs, hx, hr, Result.andThen]
set_option maxRecDepth 100000 in
theorem app_str {W : World} {k k2 : Nat} {v v2 : Value} {xs ys : List ByteArray} {T : TypeId} (hv : W.ownsRow k 9 1 v xs.length (strC xs)) (h2 : W.ownsRow k2 9 1 v2 ys.length (strC ys)) (hk : k ≤ W.heap.size) (hs : xs.length + ys.length ≤ 4000000) :
    ∃ v' w', (Builtin.append_ #[47, 47] T #[v, v2]).run Tryd.prog W = .ok v' w' ∧ w'.ownsRow k 9 1 v' (xs ++ ys).length (strC (xs ++ ys)) ∧ W.grownBy w' v.ownBlock ∧ (v'.ownBlock = v.ownBlock ∨ v'.ownBlock = some W.heap.size) := by
  obtain ⟨ti, t1, t2, t3, t4⟩ := info_parts info9
  have hsc : strC (xs ++ ys) = strC xs ++ strC ys := by simp [strC]
  obtain ⟨h21, ⟨rfl, hn2⟩ | ⟨g, cap, cur, rfl, y1, y2, y3, y4, y5, y6⟩⟩ := id h2
  · have hl : ys = [] := List.eq_nil_of_length_eq_zero hn2
    subst hl
    refine ⟨v, W, ?_, by simpa using hv, World.grownBy.refl _ _, .inl rfl⟩
    obtain ⟨_, ⟨rfl, h2'⟩ | ⟨g, c, cur, rfl, _, _, hnc, _⟩⟩ := hv
    · simp [Builtin.append_, run_underlying Tryd.underlying47, sizeOf, typeInfo, t1, Builtin.lenOf, Builtin.firstCells]
    · simp [Builtin.append_, run_underlying Tryd.underlying47, sizeOf, typeInfo, t1, Builtin.lenOf, Builtin.firstCells, hnc, storeCells]
  · obtain ⟨v', w', hap, z1, z2, _, z4⟩ := run_append_own_at (P := Tryd.prog) W k 47 T 9 ti _ 1 16 Tryd.underlying47 t1 t2 t3 t4 rfl (by omega) v xs.length (strC xs) hv ⟨g, 0, none⟩ ys.length cap (strC ys) (by simp [strC]) (h2.cells rfl) (fun u hu => by
      obtain ⟨x, _, hx⟩ := List.mem_map.1 hu
      rw [← hx]
      rfl) (by unfold maxLen; omega) (by omega) hk
    exact ⟨v', w', hap, by rw [List.length_append, hsc]; exact z1, z2, z4⟩
end Go.Proofs.YtffjmkngdjbjlaaDoor
