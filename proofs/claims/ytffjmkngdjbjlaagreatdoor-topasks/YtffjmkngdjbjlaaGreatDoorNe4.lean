/- A node's newest items; a refusal. -/
import Derived.Test.YtffjmkngdjbjlaaGreatDoorNe3
namespace Go.Proofs.YtffjmkngdjbjlaaGreatDoor
open Go.RowKit

def offI (ao : Option Addr) (j cap : Nat) : Option Addr := if cap = j then ao else ao.map (·.add (j * 3))
theorem ItMem.drop {n₀ : Nat} {w : World} {ao : Option Addr} {l : List (ByteArray × ByteArray × ByteArray)} (h : ItMem n₀ w ao l) (j : Nat) {cap : Nat} (hc : l.length ≤ cap) : ItMem n₀ w (offI ao j cap) (l.drop j) := by
  refine ⟨by have := h.1; rw [List.length_drop]; omega, fun i x hx => ?_⟩
  rw [List.getElem?_drop] at hx
  have hlt := (List.getElem?_eq_some_iff.1 hx).1
  obtain ⟨b, off, e, hb, c0, c1, c2⟩ := h.2 _ x hx
  refine ⟨b, off + j * 3, ?_, hb, ?_, ?_, ?_⟩
  · unfold offI
    rw [if_neg (by omega), e]
    simp [Addr.add]
  · rw [← c0]
    congr 2
    omega
  · rw [← c1]
    congr 2
    omega
  · rw [← c2]
    congr 2
    omega
theorem ex_hiI {o : Oper} {a : Act} {w : World} {x y : Operand} {ao : Option Addr} {m cap k : Nat} (ho : o.op = .slice 28 x (some y) none none) (hx : a.eval x = .slice ao m cap) (hy : a.eval y = .int .i64 k) (hk : k ≤ m) : (execOp a.eval o).run Tryz.prog w = .ok (.value (.slice (offI ao k cap) (m - k) (cap - k))) w := by
  have hu : Tryz.prog.underlying 28 = some (.slice (Tryz.prog.elem 28)) := by rw [itemsE]; exact Tryz.underlying28
  obtain ⟨ti, t1, t2, t3, t4⟩ := info_parts infoItem
  have hsz : (Go.sizeOf 83).run Tryz.prog w = .ok 3 w := by simp [Go.sizeOf, typeInfo, t1, t3]
  have h1 := run_slice_l (P := Tryz.prog) (w := w) 28 ao m cap hu .i64 k (by omega) (by omega)
  rw [itemsE, hsz] at h1
  have h2 := run_sliceAt_slice (P := Tryz.prog) (w := w) 28 (.slice ao m cap) (some (.int .i64 k)) none none hu
  rw [h1] at h2
  unfold execOp
  simp [ho, hx, hy, h2, Result.andThen, sliced, offI]
/-- The last ones, at most so many. -/
def lastL {α : Type} (L : List α) (most : Nat) : List α := L.drop (L.length - most)
theorem results_no {c d : Nat} {fn : Func} {tmps : Array Value} {w : World} {r : Nat} {z : Value} (h : fn.results = #[.cell c 30, .tmp d]) (hp : tmps[c]?.getD undef = .pointer (some ⟨r, 0, none⟩)) (hz : tmps[d]?.getD undef = z) (hb : w.heap[r]? = some (.cells #[.string ⟨#[]⟩, .bool false, .int .u8 0, .int .i64 0, .slice none 0 0, .slice none 0 0, .slice none 0 0, .string ⟨#[]⟩] 30)) : (results fn tmps).run Tryz.prog w = .ok (.tuple #[.agg #[.string ⟨#[]⟩, .bool false, .int .u8 0, .int .i64 0, .slice none 0 0, .slice none 0 0, .slice none 0 0, .string ⟨#[]⟩], z]) w := by
  obtain ⟨c0, c1, c2, c3, c4, c5, c6, c7⟩ := nd_box (n := ⟨⟨#[]⟩, false, 0, 0, [], [], [], ⟨#[]⟩⟩) (v := ⟨none, 0, none, 0, none, 0⟩) hb
  simp only [List.length_nil] at c4 c5 c6
  simp [results, h, hp, hz, c0, c1, c2, c3, c4, c5, c6, c7, go_sem, Tryz.isAgg30, Tryz.sizeOf30]
def noNd : Array Value := #[.string ⟨#[]⟩, .bool false, .int .u8 0, .int .i64 0, .slice none 0 0, .slice none 0 0, .slice none 0 0, .string ⟨#[]⟩]
set_option maxRecDepth 100000 in
theorem refuse_any (c : Int) (w : World) : Calls Tryz.prog 14 #[.int .i64 c] w fun e w' => e = .returned (.tuple #[.agg noNd, .int .i64 c]) ∧ Below w.heap.size w w' := by
  unfold noNd
  go_enter Tryz.func14, Tryz.ntmps14
  go_wp2_with fail
  have fb := World.alloc_heap_new w (.cells #[.string ⟨#[]⟩, .bool false, .int .u8 0, .int .i64 0, .slice none 0 0, .slice none 0 0, .slice none 0 0, .string ⟨#[]⟩] 30)
  exact bodyPost_ret (results_no (c := 2) (d := 3) rfl rfl rfl fb) rfl ⟨rfl, (Below.refl _ w).alloc (Nat.le_refl _) _⟩
/-- A node is stored in a box. -/
def setNd (w : World) (r : Nat) (n : Nd) (u : NdW) : World := ((((((((w.setCell ⟨r, 0, none⟩ (.string n.name)).setCell ⟨r, 1, none⟩ (.bool n.coll)).setCell ⟨r, 2, none⟩ (.int .u8 n.acc)).setCell ⟨r, 3, none⟩ (.int .i64 n.max)).setCell ⟨r, 4, none⟩ (.slice u.aa n.affs.length u.ac)).setCell ⟨r, 5, none⟩ (.slice u.sa n.subs.length u.sc)).setCell ⟨r, 6, none⟩ (.slice u.ia n.items.length u.ic)).setCell ⟨r, 7, none⟩ (.string n.parent))
theorem setNd_heap {w : World} {r : Nat} {n n0 : Nd} {u u0 : NdW} (h : w.heap[r]? = some (.cells (ndA n0 u0) 30)) : (setNd w r n u).heap[r]? = some (.cells (ndA n u) 30) := by
  unfold ndA at h
  have h0 := heap_setk (i := 0) (v := .string n.name) h
  simp only [List.setIfInBounds_toArray, List.set_cons_zero] at h0
  have h1 := heap_setk (i := 1) (v := .bool n.coll) h0
  simp only [List.setIfInBounds_toArray, List.set_cons_zero, List.set_cons_succ] at h1
  have h2 := heap_setk (i := 2) (v := .int .u8 n.acc) h1
  simp only [List.setIfInBounds_toArray, List.set_cons_zero, List.set_cons_succ] at h2
  have h3 := heap_setk (i := 3) (v := .int .i64 n.max) h2
  simp only [List.setIfInBounds_toArray, List.set_cons_zero, List.set_cons_succ] at h3
  have h4 := heap_setk (i := 4) (v := .slice u.aa n.affs.length u.ac) h3
  simp only [List.setIfInBounds_toArray, List.set_cons_zero, List.set_cons_succ] at h4
  have h5 := heap_setk (i := 5) (v := .slice u.sa n.subs.length u.sc) h4
  simp only [List.setIfInBounds_toArray, List.set_cons_zero, List.set_cons_succ] at h5
  have h6 := heap_setk (i := 6) (v := .slice u.ia n.items.length u.ic) h5
  simp only [List.setIfInBounds_toArray, List.set_cons_zero, List.set_cons_succ] at h6
  have h7 := heap_setk (i := 7) (v := .string n.parent) h6
  simp only [List.setIfInBounds_toArray, List.set_cons_zero, List.set_cons_succ] at h7
  exact h7
theorem setNd_far {w : World} {r : Nat} {n : Nd} {u : NdW} : ∀ k, k ≠ r → (setNd w r n u).heap[k]? = w.heap[k]? := far8_nd
theorem setNd_below {k r : Nat} {w0 w : World} {n : Nd} {u : NdW} (h : Below k w0 w) (hr : k ≤ r) : Below k w0 (setNd w r n u) := bel8_nd h hr
theorem setNd_size {w : World} {r : Nat} {n : Nd} {u : NdW} : (setNd w r n u).heap.size = w.heap.size := by simp only [setNd, size_set]
theorem store_nd {w : World} {r : Nat} {n n0 : Nd} {u u0 : NdW} (h : w.heap[r]? = some (.cells (ndA n0 u0) 30)) : (Instr.storeAt 30 (.pointer (some ⟨r, 0, none⟩)) (.agg (ndA n u))).run Tryz.prog w = .ok () (setNd w r n u) := by
  obtain ⟨z0, z1, z2, z3, z4, z5, z6, z7⟩ := nd_box h
  have y0 : w.frozen? ⟨r, 0, none⟩ = false := by simp [World.frozen?, h]
  have y1 : w.frozen? ⟨r, 1, none⟩ = false := by simp [World.frozen?, h]
  have y2 : w.frozen? ⟨r, 2, none⟩ = false := by simp [World.frozen?, h]
  have y3 : w.frozen? ⟨r, 3, none⟩ = false := by simp [World.frozen?, h]
  have y4 : w.frozen? ⟨r, 4, none⟩ = false := by simp [World.frozen?, h]
  have y5 : w.frozen? ⟨r, 5, none⟩ = false := by simp [World.frozen?, h]
  have y6 : w.frozen? ⟨r, 6, none⟩ = false := by simp [World.frozen?, h]
  have y7 : w.frozen? ⟨r, 7, none⟩ = false := by simp [World.frozen?, h]
  unfold setNd ndA
  go_simp
theorem noNd_eq : noNd = ndA ⟨⟨#[]⟩, false, 0, 0, [], [], [], ⟨#[]⟩⟩ ⟨none, 0, none, 0, none, 0⟩ := rfl
def noN : Nd := ⟨⟨#[]⟩, false, 0, 0, [], [], [], ⟨#[]⟩⟩
def noW : NdW := ⟨none, 0, none, 0, none, 0⟩
theorem noN_mem (w : World) : NdM w.heap.size w noN noW := ⟨⟨⟨by simp [noN], fun k x h => by simp [noN] at h⟩, ⟨by simp [noN], fun k x h => by simp [noN] at h⟩, by simp [noN, noW], by simp [noN, noW]⟩, ⟨by simp [noN], fun k x h => by simp [noN] at h⟩, by simp [noN, noW], ⟨Nat.zero_le _, Nat.zero_le _, fun x h => by simp [noN] at h, fun x h => by simp [noN] at h, fun x h => by simp [noN] at h⟩⟩
theorem results_nc {c d : Nat} {fn : Func} {tmps : Array Value} {w : World} {r : Nat} {n : Nd} {u : NdW} {z : Value} (h : fn.results = #[.cell c 30, .tmp d]) (hp : tmps[c]?.getD undef = .pointer (some ⟨r, 0, none⟩)) (hz : tmps[d]?.getD undef = z) (hb : w.heap[r]? = some (.cells (ndA n u) 30)) : (results fn tmps).run Tryz.prog w = .ok (.tuple #[.agg (ndA n u), z]) w := by
  obtain ⟨c0, c1, c2, c3, c4, c5, c6, c7⟩ := nd_box hb
  unfold ndA
  simp [results, h, hp, hz, c0, c1, c2, c3, c4, c5, c6, c7, go_sem, Tryz.isAgg30, Tryz.sizeOf30]
/-- Why somebody may not change the items of a node. -/
def BarC (n : Nd) (s : ByteArray) (least : Nat) (c : Int) : Prop := (¬ RightN n ∧ c = 1) ∨ (RightN n ∧ n.coll = true ∧ c = 6) ∨ (RightN n ∧ n.coll = false ∧ roleL n.affs s < least ∧ c = 3) ∨ (RightN n ∧ n.coll = false ∧ least ≤ roleL n.affs s ∧ c = 0)
end Go.Proofs.YtffjmkngdjbjlaaGreatDoor
