/- Stanzas as values that are loaded and stored. -/
import Derived.Test.YtpknifioflagaaaDoorSt13
namespace Go.Proofs.YtpknifioflagaaaDoor
open Go.RowKit Go.Shelf

theorem other6 {w : World} {b j : Nat} (a0 a1 a2 a3 a4 a5 : Value) (hj : j ≠ b) : ((((((w.setCell ⟨b, 0, none⟩ a0).setCell ⟨b, 1, none⟩ a1).setCell ⟨b, 2, none⟩ a2).setCell ⟨b, 3, none⟩ a3).setCell ⟨b, 4, none⟩ a4).setCell ⟨b, 5, none⟩ a5).heap[j]? = w.heap[j]? :=
  (Below.heap_setCell _ _ _ _ hj).trans ((Below.heap_setCell _ _ _ _ hj).trans ((Below.heap_setCell _ _ _ _ hj).trans ((Below.heap_setCell _ _ _ _ hj).trans ((Below.heap_setCell _ _ _ _ hj).trans (Below.heap_setCell _ _ _ _ hj)))))
theorem run_load_st {w : World} {b : Nat} {v0 v1 v2 v3 v4 v5 : Value} {T : TypeId} (h : w.heap[b]? = some (.cells #[v0, v1, v2, v3, v4, v5] T)) : (Instr.loadAt 25 (.pointer (some ⟨b, 0, none⟩))).run Tryd.prog w = .ok (.agg #[v0, v1, v2, v3, v4, v5]) w := by
  have a := Tryd.isAgg25
  have z := Tryd.sizeOf25
  obtain ⟨c0, c1, c2, c3, c4, c5⟩ := cells6 h
  simp [Instr.loadAt, Instr.sureAddr, loadVar, loadCellsFrom, a, z, c0, c1, c2, c3, c4, c5, go_sem, Addr.add]
theorem run_store_st {w : World} {b : Nat} {v0 v1 v2 v3 v4 v5 : Value} {T : TypeId} (h : w.heap[b]? = some (.cells #[v0, v1, v2, v3, v4, v5] T)) (k : Int) (ty fr tt id : ByteArray) (pa : Option Addr) (pn pc : Nat) : (Instr.storeAt 25 (.pointer (some ⟨b, 0, none⟩)) (.agg #[.int .u8 k, .string ty, .string fr, .string tt, .string id, .slice pa pn pc])).run Tryd.prog w = .ok () ((((((w.setCell ⟨b, 0, none⟩ (.int .u8 k)).setCell ⟨b, 1, none⟩ (.string ty)).setCell ⟨b, 2, none⟩ (.string fr)).setCell ⟨b, 3, none⟩ (.string tt)).setCell ⟨b, 4, none⟩ (.string id)).setCell ⟨b, 5, none⟩ (.slice pa pn pc)) := by
  have a := Tryd.isAgg25
  have z := Tryd.sizeOf25
  have f : ∀ i, w.frozen? ⟨b, i, none⟩ = false := frozen6 h
  obtain ⟨c0, c1, c2, c3, c4, c5⟩ := cells6 h
  go_simp
end Go.Proofs.YtpknifioflagaaaDoor
