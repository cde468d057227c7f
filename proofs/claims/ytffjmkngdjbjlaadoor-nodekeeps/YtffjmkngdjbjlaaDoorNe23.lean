/- Edits that are handed in; an edit's answer in a box of its own. -/
import Derived.Test.YtffjmkngdjbjlaaDoorNe20
import Derived.Test.YtffjmkngdjbjlaaDoorQN
import Derived.Test.YtffjmkngdjbjlaaDoorNodeMay
namespace Go.Proofs.YtffjmkngdjbjlaaDoor
open Go.RowKit

def edC (x : Ed) : List Value := [.int .i64 x.kind, .string x.by_, .string x.who, .int .i64 x.depth, .int .i64 x.max, .bool x.yes, .int .u8 x.role, .int .u8 x.acc, .string x.item, .string x.text]
/-- A region that draws with one way out and one act behind it (left to unification); what holds of the world behind it. -/
theorem region_any {P : Program} {id : Nat} {ops : Array Oper} {Q : Exit → Act → World → Prop} {S : World → Prop} {a : Act} {w : World} (A : Act) (B : World → Prop) (hm : P.follows .mixedOrders = true)
    (h : wpAnyH P .any ops (fun e a w' => e = .normal ∧ a = A ∧ B w') S ops.size (Array.replicate ops.size false) a w.drew) (hq : ∀ w', B w' → Q .normal A w') : (Code.region id ops true).wp P Q a w :=
  wp_mono (wp_region_held hm h) (by rintro e a w ⟨rfl, rfl, hb⟩; exact hq w hb)
theorem ex_fldS0 {o : Oper} {a : Act} {w : World} {x : Operand} {b off : Nat} (ho : o.op = .fieldAddr 39 x 0) (hx : a.eval x = .pointer (some ⟨b, off, none⟩)) : (execOp a.eval o).run Tryd.prog w = .ok (.value (.pointer (some ⟨b, off, none⟩))) w := by
  unfold execOp
  simp only [ho, hx]
  go_simp
theorem agg_one9 (w : World) : (isAgg 9).run Tryd.prog w = .ok false w := by
  unfold isAgg
  rw [Sem.run_bind, run_underlying Tryd.underlying9 w]
  simp
/-- Edits that are read. -/
def EdsMem (n₀ : Nat) (w : World) (ao : Option Addr) (l : List Ed) : Prop :=
  ∀ k x, l[k]? = some x → EdFits x ∧ ∃ b off, ao = some ⟨b, off, none⟩ ∧ b < n₀ ∧ ∀ j (h : j < 10), w.cell? ⟨b, off + k * 10 + j, none⟩ = some ((edC x)[j]'h)
theorem EdsMem.below {n₀ : Nat} {w w' : World} {ao : Option Addr} {l : List Ed} (h : EdsMem n₀ w ao l) (hb : Below n₀ w w') : EdsMem n₀ w' ao l := fun k x hk => by
  obtain ⟨f, b, off, e, hb1, c⟩ := h k x hk
  exact ⟨f, b, off, e, hb1, fun j hj => (hb.cell (p := ⟨b, _, none⟩) hb1).trans (c j hj)⟩
theorem load_edC {w : World} {b off : Nat} {x : Ed} (hc : ∀ j (h : j < 10), w.cell? ⟨b, off + j, none⟩ = some ((edC x)[j]'h)) : (Instr.loadAt 35 (.pointer (some ⟨b, off, none⟩))).run Tryd.prog w = .ok (.agg (edA x)) w := by
  obtain ⟨ti, t1, t2, t3, t4⟩ := info_parts infoEd11
  have h := run_loadAt_mid (P := Tryd.prog) w b off 35 (edC x) _ (fun j v hv => by
    have hj := (List.getElem?_eq_some_iff.1 hv).1
    have := hc j hj
    rw [List.getElem?_eq_getElem hj] at hv
    cases hv
    exact this) Tryd.underlying35 rfl (by rw [t1]; simp [t3, edC])
  have e : (edC x).toArray = edA x := rfl
  rw [← e]
  simpa using h
theorem ex_idxEd {o : Oper} {a : Act} {w : World} {x y : Operand} {b off m cap k : Nat} (ho : o.op = .indexAddr 23 x y) (hx : a.eval x = .slice (some ⟨b, off, none⟩) m cap) (hy : a.eval y = .int .i64 k) (hk : k < m) : (execOp a.eval o).run Tryd.prog w = .ok (.value (.pointer (some ⟨b, off + k * 10, none⟩))) w := by
  have hk1 : (k : Int) < m := by omega
  unfold execOp
  simp only [ho, hx, hy]
  go_simp
/-- An edit's answer stands in a box. -/
structure DoneAt (V0 : World) (n : Nd) (x : Ed) (m : Nd) (u : NdW) (c : Int) (bq : Nat) (W : World) : Prop where
  box : W.heap[bq]? = some (.cells (ndA m u) 28)
  mem : NdM W.heap.size W m u
  bel : Below V0.heap.size V0 W
  doc : DoC n x m c
  lo : V0.heap.size ≤ bq
  own : Own V0 u
theorem zero_nd (V : World) : (Instr.alloc 28 true (.tuple #[])).run Tryd.prog V = .ok (.pointer (some ⟨V.heap.size, 0, none⟩)) (V.alloc (.cells (ndA noN noW) 28)) := by
  unfold ndA noN noW
  kernel_rfl
/-- First the edit, then the box. -/
theorem doneAt1 {V0 V1 : World} {n m : Nd} {x : Ed} {u : NdW} {c : Int} (hC : DoC n x m c) (hm : NdM V1.heap.size V1 m u) (b1 : Below V0.heap.size V0 V1) (ho : Own V0 u) : DoneAt V0 n x m u c V1.heap.size (setNd (V1.alloc (.cells (ndA noN noW) 28)) V1.heap.size m u) := by
  have hz := World.alloc_heap_new V1 (.cells (ndA noN noW) 28)
  have b2 : Below V1.heap.size V1 (setNd (V1.alloc (.cells (ndA noN noW) 28)) V1.heap.size m u) := setNd_below ((Below.refl _ V1).alloc (Nat.le_refl _) _) (Nat.le_refl _)
  exact ⟨setNd_heap hz, hm.move b2, b1.trans (b2.mono b1.size), hC, b1.size, ho⟩
/-- First the box, then the edit. -/
theorem doneAt2 {V0 V2 : World} {n m : Nd} {x : Ed} {u : NdW} {c : Int} (hC : DoC n x m c) (hm : NdM V2.heap.size V2 m u) (b1 : Below (V0.alloc (.cells (ndA noN noW) 28)).heap.size (V0.alloc (.cells (ndA noN noW) 28)) V2) (ho : Own (V0.alloc (.cells (ndA noN noW) 28)) u) : DoneAt V0 n x m u c V0.heap.size (setNd V2 V0.heap.size m u) ∧ V2.heap[V0.heap.size]? = some (.cells (ndA noN noW) 28) := by
  have hz := World.alloc_heap_new V0 (.cells (ndA noN noW) 28)
  have hz2 := (b1.block _ (by simp)).trans hz
  have b0 : Below V0.heap.size V0 (V0.alloc (.cells (ndA noN noW) 28)) := (Below.refl _ V0).alloc (Nat.le_refl _) _
  have hs : (V0.alloc (.cells (ndA noN noW) 28)).heap.size = V0.heap.size + 1 := World.size_alloc _ _
  have o2 : Own V0 u := ⟨fun a e => by have := ho.1 a e; omega, fun a e => by have := ho.2.1 a e; omega, fun a e => by have := ho.2.2 a e; omega⟩
  exact ⟨⟨setNd_heap hz2, ndM_far hm setNd_size setNd_far ⟨fun a e => by have := ho.1 a e; omega, fun a e => by have := ho.2.1 a e; omega, fun a e => by have := ho.2.2 a e; omega⟩, setNd_below (b0.trans (b1.mono b0.size)) (Nat.le_refl _), hC, Nat.le_refl _, o2⟩, hz2⟩
end Go.Proofs.YtffjmkngdjbjlaaDoor
