/- A deed of chapter 8 in memory. -/
import Derived.Test.YtfknjmfkkaoggaaSD
namespace Go.Proofs.Ytfknjmfkkaoggaa
open Go.RowKit Go.Shelf

/-- A deed: its kind, its bytes, how many writes, what survives. -/
structure Sd where
  kind : Int
  ba : Option Addr
  b : List UInt8
  bc : Nat
  wri : Int
  sa : Option Addr
  sv : List Bool
  sc : Nat
def sdC (x : Sd) : Array Value := #[.int .i64 x.kind, .slice x.ba x.b.length x.bc, .int .i64 x.wri, .slice x.sa x.sv.length x.sc]
structure SdOk (n₀ : Nat) (w : World) (x : Sd) : Prop where
  len : x.b.length ≤ x.bc
  cap : x.bc ≤ 9223372036854775807
  by_ : ByteMem n₀ w x.ba x.b
  sv : BoolMem n₀ w x.sa x.sv
theorem SdOk.below {n₀ : Nat} {w w' : World} {x : Sd} (h : SdOk n₀ w x) (hb : Below n₀ w w') : SdOk n₀ w' x := ⟨h.len, h.cap, h.by_.below hb, h.sv.below hb⟩
/-- Deeds in memory. -/
def SdMem (n₀ : Nat) (w : World) (ao : Option Addr) (ds : List Sd) : Prop := ds.length ≤ 9223372036854775807 ∧ ∀ (k : Nat) (x : Sd), ds[k]? = some x → SdOk n₀ w x ∧ ∃ b off, ao = some ⟨b, off, none⟩ ∧ b < n₀ ∧ w.cell? ⟨b, off + k * 4, none⟩ = some (.int .i64 x.kind) ∧ w.cell? ⟨b, off + k * 4 + 1, none⟩ = some (.slice x.ba x.b.length x.bc) ∧ w.cell? ⟨b, off + k * 4 + 2, none⟩ = some (.int .i64 x.wri) ∧ w.cell? ⟨b, off + k * 4 + 3, none⟩ = some (.slice x.sa x.sv.length x.sc)
theorem SdMem.below {n₀ : Nat} {w w' : World} {ao : Option Addr} {ds : List Sd} (h : SdMem n₀ w ao ds) (hb : Below n₀ w w') : SdMem n₀ w' ao ds := by
  refine ⟨h.1, fun k x hk => ?_⟩
  obtain ⟨h1, b, off, e1, e2, c0, c1, c2, c3⟩ := h.2 k x hk
  exact ⟨h1.below hb, b, off, e1, e2, (hb.cell (p := ⟨b, _, none⟩) e2).trans c0, (hb.cell (p := ⟨b, _, none⟩) e2).trans c1, (hb.cell (p := ⟨b, _, none⟩) e2).trans c2, (hb.cell (p := ⟨b, _, none⟩) e2).trans c3⟩
/-- A deed in a block of its own. -/
theorem boxedS (w : World) (x : Sd) : ∃ W, w.alloc (.cells (sdC x) 44) = W ∧ W.heap[w.heap.size]? = some (.cells (sdC x) 44) ∧ W.heap.size = w.heap.size + 1 ∧ Below w.heap.size w W :=
  ⟨_, rfl, World.alloc_heap_new w _, by simp, (Below.refl _ w).alloc (Nat.le_refl _) _⟩
theorem cellsS {w : World} {b : Nat} {x : Sd} {T : TypeId} (h : w.heap[b]? = some (.cells (sdC x) T)) : w.cell? ⟨b, 0, none⟩ = some (.int .i64 x.kind) ∧ w.cell? ⟨b, 1, none⟩ = some (.slice x.ba x.b.length x.bc) ∧ w.cell? ⟨b, 2, none⟩ = some (.int .i64 x.wri) ∧ w.cell? ⟨b, 3, none⟩ = some (.slice x.sa x.sv.length x.sc) := by
  unfold sdC at h
  exact ⟨by simp [World.cell?, h], by simp [World.cell?, h], by simp [World.cell?, h], by simp [World.cell?, h]⟩
end Go.Proofs.Ytfknjmfkkaoggaa
