/- The table of entities; entityName. -/
import Derived.Test.YthmidlmknkbdaaaDoorWS
import Derived.Laws.Rows
import Derived.LoopTactic
namespace Go.Proofs.YthmidlmknkbdaaaDoor
open Go.RowKit

def entN : Nat → ByteArray
  | 0 => ⟨#[97, 109, 112]⟩
  | 1 => ⟨#[108, 116]⟩
  | 2 => ⟨#[103, 116]⟩
  | 3 => ⟨#[97, 112, 111, 115]⟩
  | 4 => ⟨#[113, 117, 111, 116]⟩
  | _ => ⟨#[]⟩
def entC : Nat → Int
  | 0 => 38
  | 1 => 60
  | 2 => 62
  | 3 => 39
  | 4 => 34
  | _ => 0
def entCs : Array Value := #[.int .i32 (entC 0), .string (entN 0), .int .i32 (entC 1), .string (entN 1), .int .i32 (entC 2), .string (entN 2), .int .i32 (entC 3), .string (entN 3), .int .i32 (entC 4), .string (entN 4)]
/-- The name of a character's entity; empty, if it has none. -/
def entName (r : Int) : ByteArray := if r = 38 then entN 0 else if r = 60 then entN 1 else if r = 62 then entN 2 else if r = 39 then entN 3 else if r = 34 then entN 4 else ⟨#[]⟩

/-- The table lies as the program's text lays it. -/
def EntLaid (w : World) : Prop := ∃ t fr, w.heap[0]? = some (.cells entCs t fr)
theorem EntLaid.size {w : World} (h : EntLaid w) : 0 < w.heap.size := by
  obtain ⟨t, fr, h⟩ := h
  exact (Array.getElem?_eq_some_iff.1 h).1
theorem EntLaid.below {w w' : World} {B : Nat} (h : EntLaid w) (b : Below B w w') (hB : 0 < B) : EntLaid w' := by
  obtain ⟨t, fr, h⟩ := h
  exact ⟨t, fr, by rw [b.block _ hB]; exact h⟩

theorem entSize : (Tryd.prog.info? 112).map (·.size) = some entCs.size := by kernel_rfl
theorem entIndex0 (w : World) : (Instr.index 112 (.agg entCs) (.int .i64 0)).run Tryd.prog w = .ok (.agg #[.int .i32 (entC 0), .string (entN 0)]) w := by kernel_rfl
theorem entIndex1 (w : World) : (Instr.index 112 (.agg entCs) (.int .i64 1)).run Tryd.prog w = .ok (.agg #[.int .i32 (entC 1), .string (entN 1)]) w := by kernel_rfl
theorem entIndex2 (w : World) : (Instr.index 112 (.agg entCs) (.int .i64 2)).run Tryd.prog w = .ok (.agg #[.int .i32 (entC 2), .string (entN 2)]) w := by kernel_rfl
theorem entIndex3 (w : World) : (Instr.index 112 (.agg entCs) (.int .i64 3)).run Tryd.prog w = .ok (.agg #[.int .i32 (entC 3), .string (entN 3)]) w := by kernel_rfl
theorem entIndex4 (w : World) : (Instr.index 112 (.agg entCs) (.int .i64 4)).run Tryd.prog w = .ok (.agg #[.int .i32 (entC 4), .string (entN 4)]) w := by kernel_rfl
theorem entIndex (k : Nat) (h : k < 5) (w : World) : (Instr.index 112 (.agg entCs) (.int .i64 k)).run Tryd.prog w = .ok (.agg #[.int .i32 (entC k), .string (entN k)]) w := by
  match k, h with
  | 0, _ => exact entIndex0 w
  | 1, _ => exact entIndex1 w
  | 2, _ => exact entIndex2 w
  | 3, _ => exact entIndex3 w
  | 4, _ => exact entIndex4 w

theorem entName_at (k : Nat) (h : k < 5) : entName (entC k) = entN k := by
  match k, h with
  | 0, _ => rfl
  | 1, _ => rfl
  | 2, _ => rfl
  | 3, _ => rfl
  | 4, _ => rfl
theorem entName_none (r : Int) (h : ∀ k, k < 5 → entC k ≠ r) : entName r = ⟨#[]⟩ := by
  have h0 := h 0 (by omega); have h1 := h 1 (by omega); have h2 := h 2 (by omega); have h3 := h 3 (by omega); have h4 := h 4 (by omega)
  simp only [entC] at h0 h1 h2 h3 h4
  unfold entName
  rw [if_neg (by omega), if_neg (by omega), if_neg (by omega), if_neg (by omega), if_neg (by omega)]
end Go.Proofs.YthmidlmknkbdaaaDoor
