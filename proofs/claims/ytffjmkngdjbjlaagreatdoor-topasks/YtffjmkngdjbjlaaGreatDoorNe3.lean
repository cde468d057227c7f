/- A node with lists of its own. -/
import Derived.Test.YtffjmkngdjbjlaaGreatDoorNe2
import Derived.Test.YtffjmkngdjbjlaaGreatDoorQS
import Derived.Test.YtffjmkngdjbjlaaGreatDoorQJ
namespace Go.Proofs.YtffjmkngdjbjlaaGreatDoor
open Go.RowKit

theorem load_slT {T : TypeId} {w : World} {b i : Nat} {v : Value} (hT : (isAgg T).run Tryz.prog w = .ok false w) (hc : w.cell? ⟨b, i, none⟩ = some v) : (Instr.loadAt T (.pointer (some ⟨b, i, none⟩))).run Tryz.prog w = .ok v w := by
  simp [Instr.loadAt, Instr.sureAddr, loadVar, hT, hc, go_sem]
theorem load_anyA {w : World} {b i : Nat} {v : Value} (hc : w.cell? ⟨b, i, none⟩ = some v) : (Instr.loadAt 26 (.pointer (some ⟨b, i, none⟩))).run Tryz.prog w = .ok v w := load_slT (by
  unfold isAgg
  rw [Sem.run_bind, run_underlying Tryz.underlying26 w]
  simp) hc
theorem load_anyS {w : World} {b i : Nat} {v : Value} (hc : w.cell? ⟨b, i, none⟩ = some v) : (Instr.loadAt 27 (.pointer (some ⟨b, i, none⟩))).run Tryz.prog w = .ok v w := load_slT (by
  unfold isAgg
  rw [Sem.run_bind, run_underlying Tryz.underlying27 w]
  simp) hc
theorem load_anyI {w : World} {b i : Nat} {v : Value} (hc : w.cell? ⟨b, i, none⟩ = some v) : (Instr.loadAt 28 (.pointer (some ⟨b, i, none⟩))).run Tryz.prog w = .ok v w := load_slT (by
  unfold isAgg
  rw [Sem.run_bind, run_underlying Tryz.underlying28 w]
  simp) hc
theorem ex_fldNd4 {o : Oper} {a : Act} {w : World} {x : Operand} {b : Nat} (ho : o.op = .fieldAddr 30 x 4) (hx : a.eval x = .pointer (some ⟨b, 0, none⟩)) : (execOp a.eval o).run Tryz.prog w = .ok (.value (.pointer (some ⟨b, 4, none⟩))) w := by
  unfold execOp
  simp only [ho, hx]
  go_simp
theorem ex_fldNd5 {o : Oper} {a : Act} {w : World} {x : Operand} {b : Nat} (ho : o.op = .fieldAddr 30 x 5) (hx : a.eval x = .pointer (some ⟨b, 0, none⟩)) : (execOp a.eval o).run Tryz.prog w = .ok (.value (.pointer (some ⟨b, 5, none⟩))) w := by
  unfold execOp
  simp only [ho, hx]
  go_simp
theorem ex_fldNd6 {o : Oper} {a : Act} {w : World} {x : Operand} {b : Nat} (ho : o.op = .fieldAddr 30 x 6) (hx : a.eval x = .pointer (some ⟨b, 0, none⟩)) : (execOp a.eval o).run Tryz.prog w = .ok (.value (.pointer (some ⟨b, 6, none⟩))) w := by
  unfold execOp
  simp only [ho, hx]
  go_simp
theorem store_any {T : TypeId} {w : World} {b i : Nat} {v : Value} {ga : Option Addr} {n gc : Nat} (hT : (Go.sizeOf T).run Tryz.prog w = .ok 1 w) (hc : w.cell? ⟨b, i, none⟩ = some v) (hf : w.frozen? ⟨b, i, none⟩ = false) : (Instr.storeAt T (.pointer (some ⟨b, i, none⟩)) (.slice ga n gc)).run Tryz.prog w = .ok () (w.setCell ⟨b, i, none⟩ (.slice ga n gc)) := by
  simp [Instr.storeAt, Instr.sureAddr, storeVar, hT, hc, hf, go_sem]
theorem size_one24 (w : World) : (Go.sizeOf 26).run Tryz.prog w = .ok 1 w := by
  have h : (Tryz.prog.info? 26).map (fun i => (i.zero, i.size, i.bytes)) = some (some (.slice none 0 0), 1, 24) := by kernel_rfl
  obtain ⟨ti, t1, t2, t3, t4⟩ := info_parts h
  simp [Go.sizeOf, typeInfo, t1, t3]
theorem size_one25 (w : World) : (Go.sizeOf 27).run Tryz.prog w = .ok 1 w := by
  have h : (Tryz.prog.info? 27).map (fun i => (i.zero, i.size, i.bytes)) = some (some (.slice none 0 0), 1, 24) := by kernel_rfl
  obtain ⟨ti, t1, t2, t3, t4⟩ := info_parts h
  simp [Go.sizeOf, typeInfo, t1, t3]
theorem size_one26 (w : World) : (Go.sizeOf 28).run Tryz.prog w = .ok 1 w := by
  have h : (Tryz.prog.info? 28).map (fun i => (i.zero, i.size, i.bytes)) = some (some (.slice none 0 0), 1, 24) := by kernel_rfl
  obtain ⟨ti, t1, t2, t3, t4⟩ := info_parts h
  simp [Go.sizeOf, typeInfo, t1, t3]
theorem box_cell {w : World} {b i : Nat} {cs : Array Value} {v : Value} {T : TypeId} (h : w.heap[b]? = some (.cells cs T)) (hi : cs[i]? = some v) : w.cell? ⟨b, i, none⟩ = some v := by simp [World.cell?, h, hi]
theorem box_froz {w : World} {b i : Nat} {cs : Array Value} {T : TypeId} (h : w.heap[b]? = some (.cells cs T)) : w.frozen? ⟨b, i, none⟩ = false := by simp [World.frozen?, h]
/-- How a node stands that has lists of its own: in the box b; r is the result's box. -/
structure FreshE (wk : Nat) (w : World) (b r : Nat) (n : Nd) (u : NdW) (W : World) : Prop where
  box : W.heap[b]? = some (.cells (ndA n u) 30)
  res : W.heap[r]? = some (.cells #[.string ⟨#[]⟩, .bool false, .int .u8 0, .int .i64 0, .slice none 0 0, .slice none 0 0, .slice none 0 0, .string ⟨#[]⟩] 30)
  mem : NdM W.heap.size W n u
  far : (∀ a, u.aa = some a → a.block ≠ r ∧ wk ≤ a.block) ∧ (∀ a, u.sa = some a → a.block ≠ r ∧ wk ≤ a.block) ∧ ∀ a, u.ia = some a → a.block ≠ r ∧ wk ≤ a.block
  bel : Below wk w W
theorem fresh_end {wk : Nat} {w V0 V : World} {b r : Nat} {n : Nd} {v : NdW} {aa sa ia : Option Addr} {ac sc ic : Nat} {m0 : Nat} {wm : World} (hm : NdM m0 wm n v) (f3 : V.heap[b]? = some (.cells (ndA n v) 30)) (hbr : b ≠ r) (hr : V.heap[r]? = V0.heap[r]?) (hr0 : V0.heap[r]? = some (.cells #[.string ⟨#[]⟩, .bool false, .int .u8 0, .int .i64 0, .slice none 0 0, .slice none 0 0, .slice none 0 0, .string ⟨#[]⟩] 30))
    (hb : Below wk w (((V.setCell ⟨b, 4, none⟩ (.slice aa n.affs.length ac)).setCell ⟨b, 5, none⟩ (.slice sa n.subs.length sc)).setCell ⟨b, 6, none⟩ (.slice ia n.items.length ic)))
    (ma : AffMem V.heap.size V aa n.affs ∧ ∀ a, aa = some a → a.block ≠ b ∧ a.block ≠ r ∧ wk ≤ a.block) (ms : SubMem V.heap.size V sa n.subs ∧ ∀ a, sa = some a → a.block ≠ b ∧ a.block ≠ r ∧ wk ≤ a.block) (mi : ItMem V.heap.size V ia n.items ∧ ∀ a, ia = some a → a.block ≠ b ∧ a.block ≠ r ∧ wk ≤ a.block) (la : n.affs.length ≤ ac) (ls : n.subs.length ≤ sc) (li : n.items.length ≤ ic) :
    FreshE wk w b r n ⟨aa, ac, sa, sc, ia, ic⟩ (((V.setCell ⟨b, 4, none⟩ (.slice aa n.affs.length ac)).setCell ⟨b, 5, none⟩ (.slice sa n.subs.length sc)).setCell ⟨b, 6, none⟩ (.slice ia n.items.length ic)) := by
  obtain ⟨W, hW⟩ : ∃ W, ((V.setCell ⟨b, 4, none⟩ (.slice aa n.affs.length ac)).setCell ⟨b, 5, none⟩ (.slice sa n.subs.length sc)).setCell ⟨b, 6, none⟩ (.slice ia n.items.length ic) = W := ⟨_, rfl⟩
  have hz : W.heap.size = V.heap.size := by rw [← hW, size_set, size_set, size_set]
  have hblk : ∀ k, k ≠ b → W.heap[k]? = V.heap[k]? := fun k hk => by rw [← hW, set_blk _ _ _ _ hk, set_blk _ _ _ _ hk, set_blk _ _ _ _ hk]
  have hcell : ∀ k o, k ≠ b → W.cell? ⟨k, o, none⟩ = V.cell? ⟨k, o, none⟩ := fun k o hk => World.cell?_of_block (hblk k hk)
  have h3 : W.heap[b]? = some (.cells (ndA n ⟨aa, ac, sa, sc, ia, ic⟩) 30) := by
    rw [← hW]
    exact heap_setk (i := 6) (heap_setk (i := 5) (heap_setk (i := 4) f3))
  rw [hW] at hb ⊢
  refine ⟨h3, ?_, ⟨⟨?_, ?_, la, ls⟩, ?_, li, hm.fits⟩, ⟨fun a e => (ma.2 a e).2, fun a e => (ms.2 a e).2, fun a e => (mi.2 a e).2⟩, hb⟩
  · exact (hblk r (fun e => hbr e.symm)).trans (hr.trans hr0)
  · refine ⟨ma.1.1, fun k x hx => ?_⟩
    obtain ⟨g, o, e, hl, c0, c1⟩ := ma.1.2 k x hx
    have hg := (ma.2 _ e).1
    exact ⟨g, o, e, by omega, (hcell g _ hg).trans c0, (hcell g _ hg).trans c1⟩
  · refine ⟨ms.1.1, fun k x hx => ?_⟩
    obtain ⟨g, o, e, hl, c0, c1, c2⟩ := ms.1.2 k x hx
    have hg := (ms.2 _ e).1
    exact ⟨g, o, e, by omega, (hcell g _ hg).trans c0, (hcell g _ hg).trans c1, (hcell g _ hg).trans c2⟩
  · refine ⟨mi.1.1, fun k x hx => ?_⟩
    obtain ⟨g, o, e, hl, c0, c1, c2⟩ := mi.1.2 k x hx
    have hg := (mi.2 _ e).1
    exact ⟨g, o, e, by omega, (hcell g _ hg).trans c0, (hcell g _ hg).trans c1, (hcell g _ hg).trans c2⟩
theorem set8_nd {w : World} {r : Nat} {n : Nd} {u : NdW} (h : w.heap[r]? = some (.cells #[.string ⟨#[]⟩, .bool false, .int .u8 0, .int .i64 0, .slice none 0 0, .slice none 0 0, .slice none 0 0, .string ⟨#[]⟩] 30)) : ((((((((w.setCell ⟨r, 0, none⟩ (.string n.name)).setCell ⟨r, 1, none⟩ (.bool n.coll)).setCell ⟨r, 2, none⟩ (.int .u8 n.acc)).setCell ⟨r, 3, none⟩ (.int .i64 n.max)).setCell ⟨r, 4, none⟩ (.slice u.aa n.affs.length u.ac)).setCell ⟨r, 5, none⟩ (.slice u.sa n.subs.length u.sc)).setCell ⟨r, 6, none⟩ (.slice u.ia n.items.length u.ic)).setCell ⟨r, 7, none⟩ (.string n.parent)).heap[r]? = some (.cells (ndA n u) 30) := by
  have h0 := heap_setk (i := 0) (v := .string n.name) h
  simp only [List.setIfInBounds_toArray, List.set_cons_zero] at h0
  have h1 := heap_setk (i := 1) (v := .bool n.coll) h0
  simp only [List.setIfInBounds_toArray, List.set_cons_zero, List.set_cons_succ] at h1
  have h2 := heap_setk (i := 2) (v := .int .u8 n.acc) h1
  simp only [List.setIfInBounds_toArray, List.set_cons_zero, List.set_cons_succ] at h2
  have h3 := heap_setk (i := 3) (v := .int .i64 n.max) h2
  simp only [List.setIfInBounds_toArray, List.set_cons_zero, List.set_cons_succ] at h3
  have h4 := heap_setk (i := 4) (v := .slice u.aa n.affs.length u.ac) h3
  simp only [List.setIfInBounds_toArray, List.set_cons_zero, List.set_cons_succ] at h4
  have h5 := heap_setk (i := 5) (v := .slice u.sa n.subs.length u.sc) h4
  simp only [List.setIfInBounds_toArray, List.set_cons_zero, List.set_cons_succ] at h5
  have h6 := heap_setk (i := 6) (v := .slice u.ia n.items.length u.ic) h5
  simp only [List.setIfInBounds_toArray, List.set_cons_zero, List.set_cons_succ] at h6
  have h7 := heap_setk (i := 7) (v := .string n.parent) h6
  simp only [List.setIfInBounds_toArray, List.set_cons_zero, List.set_cons_succ] at h7
  exact h7
theorem bel8_nd {k r : Nat} {w0 w : World} {n : Nd} {u : NdW} (h : Below k w0 w) (hr : k ≤ r) : Below k w0 ((((((((w.setCell ⟨r, 0, none⟩ (.string n.name)).setCell ⟨r, 1, none⟩ (.bool n.coll)).setCell ⟨r, 2, none⟩ (.int .u8 n.acc)).setCell ⟨r, 3, none⟩ (.int .i64 n.max)).setCell ⟨r, 4, none⟩ (.slice u.aa n.affs.length u.ac)).setCell ⟨r, 5, none⟩ (.slice u.sa n.subs.length u.sc)).setCell ⟨r, 6, none⟩ (.slice u.ia n.items.length u.ic)).setCell ⟨r, 7, none⟩ (.string n.parent)) := ((((((((h.setCell (p := ⟨r, 0, none⟩) hr _).setCell (p := ⟨r, 1, none⟩) hr _).setCell (p := ⟨r, 2, none⟩) hr _).setCell (p := ⟨r, 3, none⟩) hr _).setCell (p := ⟨r, 4, none⟩) hr _).setCell (p := ⟨r, 5, none⟩) hr _).setCell (p := ⟨r, 6, none⟩) hr _).setCell (p := ⟨r, 7, none⟩) hr _)
theorem far8_nd {w : World} {r : Nat} {n : Nd} {u : NdW} : ∀ k, k ≠ r → ((((((((w.setCell ⟨r, 0, none⟩ (.string n.name)).setCell ⟨r, 1, none⟩ (.bool n.coll)).setCell ⟨r, 2, none⟩ (.int .u8 n.acc)).setCell ⟨r, 3, none⟩ (.int .i64 n.max)).setCell ⟨r, 4, none⟩ (.slice u.aa n.affs.length u.ac)).setCell ⟨r, 5, none⟩ (.slice u.sa n.subs.length u.sc)).setCell ⟨r, 6, none⟩ (.slice u.ia n.items.length u.ic)).setCell ⟨r, 7, none⟩ (.string n.parent)).heap[k]? = w.heap[k]? := fun k hk => by
  rw [set_blk _ _ _ _ hk, set_blk _ _ _ _ hk, set_blk _ _ _ _ hk, set_blk _ _ _ _ hk, set_blk _ _ _ _ hk, set_blk _ _ _ _ hk, set_blk _ _ _ _ hk, set_blk _ _ _ _ hk]
theorem results_nd {fn : Func} {tmps : Array Value} {w : World} {r : Nat} {n : Nd} {u : NdW} (h : fn.results = #[.cell 2 30]) (hp : tmps[2]?.getD undef = .pointer (some ⟨r, 0, none⟩)) (hb : w.heap[r]? = some (.cells (ndA n u) 30)) : (results fn tmps).run Tryz.prog w = .ok (.agg (ndA n u)) w := by
  obtain ⟨c0, c1, c2, c3, c4, c5, c6, c7⟩ := nd_box hb
  unfold ndA
  simp [results, h, hp, c0, c1, c2, c3, c4, c5, c6, c7, go_sem, Tryz.isAgg30, Tryz.sizeOf30]
/-- A node stands where only a block that holds none of its lists is written. -/
theorem ndM_far {w w' : World} {r : Nat} {n : Nd} {u : NdW} (hm : NdM w.heap.size w n u) (hz : w'.heap.size = w.heap.size) (hb : ∀ k, k ≠ r → w'.heap[k]? = w.heap[k]?) (hr : (∀ a, u.aa = some a → a.block ≠ r) ∧ (∀ a, u.sa = some a → a.block ≠ r) ∧ ∀ a, u.ia = some a → a.block ≠ r) : NdM w'.heap.size w' n u := by
  have hcell : ∀ k o, k ≠ r → w'.cell? ⟨k, o, none⟩ = w.cell? ⟨k, o, none⟩ := fun k o hk => World.cell?_of_block (hb k hk)
  refine ⟨⟨⟨hm.ok.1.1, fun k x hx => ?_⟩, ⟨hm.ok.2.1.1, fun k x hx => ?_⟩, hm.ok.2.2.1, hm.ok.2.2.2⟩, ⟨hm.it.1, fun k x hx => ?_⟩, hm.ic, hm.fits⟩
  · obtain ⟨g, o, e, hl, c0, c1⟩ := hm.ok.1.2 k x hx
    exact ⟨g, o, e, by omega, (hcell g _ (hr.1 _ e)).trans c0, (hcell g _ (hr.1 _ e)).trans c1⟩
  · obtain ⟨g, o, e, hl, c0, c1, c2⟩ := hm.ok.2.1.2 k x hx
    exact ⟨g, o, e, by omega, (hcell g _ (hr.2.1 _ e)).trans c0, (hcell g _ (hr.2.1 _ e)).trans c1, (hcell g _ (hr.2.1 _ e)).trans c2⟩
  · obtain ⟨g, o, e, hl, c0, c1, c2⟩ := hm.it.2 k x hx
    exact ⟨g, o, e, by omega, (hcell g _ (hr.2.2 _ e)).trans c0, (hcell g _ (hr.2.2 _ e)).trans c1, (hcell g _ (hr.2.2 _ e)).trans c2⟩
set_option maxRecDepth 100000 in
set_option maxHeartbeats 8000000 in
theorem fresh_any (n : Nd) (v : NdW) (w : World) (hm : NdM w.heap.size w n v) :
    Calls Tryz.prog 15 #[.agg (ndA n v)] w fun e w' => ∃ u, e = .returned (.agg (ndA n u)) ∧ NdM w'.heap.size w' n u ∧ ((∀ a, u.aa = some a → w.heap.size ≤ a.block) ∧ (∀ a, u.sa = some a → w.heap.size ≤ a.block) ∧ ∀ a, u.ia = some a → w.heap.size ≤ a.block) ∧ Below w.heap.size w w' := by
  obtain ⟨Wa, hWa⟩ : ∃ Wa, w.alloc (.cells (ndA n v) 30) = Wa := ⟨_, rfl⟩
  have fa := World.alloc_heap_new w (.cells (ndA n v) 30)
  have za : Wa.heap.size = w.heap.size + 1 := by rw [← hWa]; simp
  have ba : Below w.heap.size w Wa := by rw [← hWa]; exact (Below.refl _ w).alloc (Nat.le_refl _) _
  rw [hWa] at fa
  obtain ⟨Wb, hWb⟩ : ∃ Wb, Wa.alloc (.cells #[.string ⟨#[]⟩, .bool false, .int .u8 0, .int .i64 0, .slice none 0 0, .slice none 0 0, .slice none 0 0, .string ⟨#[]⟩] 30) = Wb := ⟨_, rfl⟩
  have fb := World.alloc_heap_new Wa (.cells #[.string ⟨#[]⟩, .bool false, .int .u8 0, .int .i64 0, .slice none 0 0, .slice none 0 0, .slice none 0 0, .string ⟨#[]⟩] 30)
  have zb : Wb.heap.size = w.heap.size + 1 + 1 := by rw [← hWb, World.size_alloc, za]
  have bb : Below Wa.heap.size Wa Wb := by rw [← hWb]; exact (Below.refl _ Wa).alloc (Nat.le_refl _) _
  rw [hWb, za] at fb
  have hkW := ba.trans (bb.mono ba.size)
  have fa' := (bb.block _ (by omega)).trans fa
  have HW := hide (And.intro hWa hWb)
  unfold ndA
  clear hWa hWb
  go_enter Tryz.func15, Tryz.ntmps15
  go_wp2_with fail
  have hA : (#[.string n.name, .bool n.coll, .int .u8 n.acc, .int .i64 n.max, .slice v.aa n.affs.length v.ac, .slice v.sa n.subs.length v.sc, .slice v.ia n.items.length v.ic, .string n.parent] : Array Value) = ndA n v := rfl
  rw [hA, HW.out.1, HW.out.2]
  obtain ⟨b, hb⟩ : ∃ b, w.heap.size = b := ⟨_, rfl⟩
  obtain ⟨r, hr⟩ : ∃ r, w.heap.size + 1 = r := ⟨_, rfl⟩
  obtain ⟨V0, hV0⟩ : ∃ V0, Wb.drew = V0 := ⟨_, rfl⟩
  have d0 : Below Wb.heap.size Wb V0 := by rw [← hV0]; exact (Below.refl _ Wb).drew
  have hkW0 : Below w.heap.size w V0 := hkW.trans (d0.mono hkW.size)
  have f0 := (d0.block _ (by omega)).trans fa'
  have g0 := (d0.block _ (by omega)).trans fb
  have hbV : w.heap.size < V0.heap.size := by have := d0.size; omega
  have hrV : w.heap.size + 1 < V0.heap.size := by have := d0.size; omega
  rw [hb] at f0 hbV
  rw [hr] at g0 hrV
  have hbne : b ≠ r := by omega
  have hr0 := g0
  obtain ⟨wk, hwk⟩ : ∃ wk, w.heap.size = wk := ⟨_, rfl⟩
  have hkb : wk ≤ b := by omega
  have hkV : wk ≤ V0.heap.size := by omega
  rw [show (w.heap.size : Nat) + 1 = r from hr, show w.heap.size = b from hb]
  rw [hwk] at hkW0 hm
  have hm := hm.below hkW0
  have hkW := hkW0
  obtain ⟨_, _, _, _, c4, c5, c6, _⟩ := nd_box f0
  clear fa fa' fb ba bb za zb hkW0 hA g0
  refine region_rel (S := fun V => Below wk V0 V) (fun a Wz => ∃ (u : NdW) (xx : Nat → Value), FreshE wk w b r n u Wz ∧ a = { tmps := #[xx 0, .pointer (some ⟨b, 0, none⟩), .pointer (some ⟨r, 0, none⟩), xx 3, xx 4, xx 5, xx 6, xx 7, xx 8, xx 9, xx 10, xx 11, xx 12, xx 13, xx 14, xx 15], defers := [] }) (by kernel_rfl) ?any ?fin
  case any =>
    rw [hV0]
    clear hV0 d0
    have SV0 : Below V0.heap.size V0 V0 := Below.refl _ _
    refine anyH_take (i := 0) (v := .pointer (some ⟨b, 4, none⟩)) rfl (some 3) rfl (by kernel_rfl) (by kernel_rfl) (by kernel_rfl) (fun _ _ _ h => by cases h.1) (by kernel_rfl) (fun _ _ => ex_fldNd4 rfl rfl) (SV0.mono hkV) ?_
    simp only [Act.put, List.setIfInBounds_toArray, List.set_cons_zero, List.set_cons_succ]
    refine anyH_take (i := 3) (v := .pointer (some ⟨b, 5, none⟩)) rfl (some 6) rfl (by kernel_rfl) (by kernel_rfl) (by kernel_rfl) (fun _ _ _ h => by cases h.1) (by kernel_rfl) (fun _ _ => ex_fldNd5 rfl rfl) (SV0.mono hkV) ?_
    simp only [Act.put, List.setIfInBounds_toArray, List.set_cons_zero, List.set_cons_succ]
    refine anyH_take (i := 6) (v := .pointer (some ⟨b, 6, none⟩)) rfl (some 9) rfl (by kernel_rfl) (by kernel_rfl) (by kernel_rfl) (fun _ _ _ h => by cases h.1) (by kernel_rfl) (fun _ _ => ex_fldNd6 rfl rfl) (SV0.mono hkV) ?_
    simp only [Act.put, List.setIfInBounds_toArray, List.set_cons_zero, List.set_cons_succ]
    refine anyH_three (i := 1) (j := 4) (k := 7) (by kernel_rfl) ?p1x1 ?p1x4 ?p1x7
    case p1x1 =>
      refine op_val rfl (some 4) rfl (by kernel_rfl) (ex_load rfl rfl (load_anyA ((SV0.cell (p := ⟨b, 4, none⟩) hbV).trans c4))) ?_
      refine ⟨SV0.mono hkV, ?_⟩
      simp only [Act.put, List.setIfInBounds_toArray, List.set_cons_zero, List.set_cons_succ]
      refine anyH_three (i := 2) (j := 4) (k := 7) (by kernel_rfl) ?p2x2 ?p2x4 ?p2x7
      case p2x2 =>
        refine op_call rfl (some 5) rfl (by kernel_rfl) #[.slice v.aa n.affs.length v.ac] rfl (by simp [Act.eval]) (fun _ _ => rfl) (copied_a v.aa v.ac n.affs V0 ((hm.ok.1.below (SV0.mono hkV)).raise (Nat.le_trans hkV SV0.size))) ?_
        rintro e V1 ⟨va, rfl, oa, b1⟩
        obtain ⟨aa, ac, rfl, ma_, la, _, ha_⟩ := own_a oa hm.ok.1.1
        have ma := And.intro ma_ (show ∀ a, aa = some a → a.block ≠ b ∧ a.block ≠ r ∧ wk ≤ a.block from fun a e => by have := (ha_ a e).1; have := SV0.size; omega)
        have SV1 : Below V0.heap.size V0 V1 := SV0.trans (b1.mono SV0.size)
        refine ⟨_, rfl, SV1.mono hkV, ?_⟩
        simp only [Act.put, List.setIfInBounds_toArray, List.set_cons_zero, List.set_cons_succ]
        refine anyH_two (i := 4) (j := 7) (by kernel_rfl) ?p3x4 ?p3x7
        case p3x4 =>
          refine op_val rfl (some 7) rfl (by kernel_rfl) (ex_load rfl rfl (load_anyS ((SV1.cell (p := ⟨b, 5, none⟩) hbV).trans c5))) ?_
          refine ⟨SV1.mono hkV, ?_⟩
          simp only [Act.put, List.setIfInBounds_toArray, List.set_cons_zero, List.set_cons_succ]
          refine anyH_two (i := 5) (j := 7) (by kernel_rfl) ?p4x5 ?p4x7
          case p4x5 =>
            refine op_call rfl (some 8) rfl (by kernel_rfl) #[.slice v.sa n.subs.length v.sc] rfl (by simp [Act.eval]) (fun _ _ => rfl) (copied_s v.sa v.sc n.subs V1 ((hm.ok.2.1.below (SV1.mono hkV)).raise (Nat.le_trans hkV SV1.size))) ?_
            rintro e V2 ⟨vs, rfl, os, b2⟩
            obtain ⟨sa, sc, rfl, ms_, ls, _, hs_⟩ := own_s os hm.ok.2.1.1
            have ms := And.intro ms_ (show ∀ a, sa = some a → a.block ≠ b ∧ a.block ≠ r ∧ wk ≤ a.block from fun a e => by have := (hs_ a e).1; have := SV1.size; omega)
            have SV2 : Below V0.heap.size V0 V2 := SV1.trans (b2.mono SV1.size)
            replace ma := And.intro ((ma.1.below b2).raise b2.size) ma.2
            refine ⟨_, rfl, SV2.mono hkV, ?_⟩
            simp only [Act.put, List.setIfInBounds_toArray, List.set_cons_zero, List.set_cons_succ]
            refine anyH_one (i := 7) (by kernel_rfl) ?_
            refine op_val rfl (some 10) rfl (by kernel_rfl) (ex_load rfl rfl (load_anyI ((SV2.cell (p := ⟨b, 6, none⟩) hbV).trans c6))) ?_
            refine ⟨SV2.mono hkV, ?_⟩
            simp only [Act.put, List.setIfInBounds_toArray, List.set_cons_zero, List.set_cons_succ]
            refine anyH_take (i := 9) (v := .pointer (some ⟨b, 4, none⟩)) rfl (some 12) rfl (by kernel_rfl) (by kernel_rfl) (by kernel_rfl) (fun _ _ _ h => by cases h.1) (by kernel_rfl) (fun _ _ => ex_fldNd4 rfl rfl) (SV2.mono hkV) ?_
            simp only [Act.put, List.setIfInBounds_toArray, List.set_cons_zero, List.set_cons_succ]
            refine anyH_one (i := 8) (by kernel_rfl) ?_
            refine op_call rfl (some 11) rfl (by kernel_rfl) #[.slice v.ia n.items.length v.ic] rfl (by simp [Act.eval]) (fun _ _ => rfl) (copied_i v.ia v.ic n.items V2 ((hm.it.below (SV2.mono hkV)).raise (Nat.le_trans hkV SV2.size))) ?_
            rintro e V3 ⟨vi, rfl, oi, b3⟩
            obtain ⟨ia, ic, rfl, mi_, li, _, hi_⟩ := own_i oi hm.it.1
            have mi := And.intro mi_ (show ∀ a, ia = some a → a.block ≠ b ∧ a.block ≠ r ∧ wk ≤ a.block from fun a e => by have := (hi_ a e).1; have := SV2.size; omega)
            have SV3 : Below V0.heap.size V0 V3 := SV2.trans (b3.mono SV2.size)
            replace ma := And.intro ((ma.1.below b3).raise b3.size) ma.2
            replace ms := And.intro ((ms.1.below b3).raise b3.size) ms.2
            refine ⟨_, rfl, SV3.mono hkV, ?_⟩
            simp only [Act.put, List.setIfInBounds_toArray, List.set_cons_zero, List.set_cons_succ]
            have f3 := (SV3.block b hbV).trans f0
            have h1 := heap_setk (i := 4) (v := .slice aa n.affs.length ac) f3
            have h2 := heap_setk (i := 5) (v := .slice sa n.subs.length sc) h1
            have h3 := heap_setk (i := 6) (v := .slice ia n.items.length ic) h2
            have t0 : Below wk V0 V3 := SV3.mono hkV
            have t1 : Below wk V0 (V3.setCell ⟨b, 4, none⟩ (.slice aa n.affs.length ac)) := t0.setCell (p := ⟨b, 4, none⟩) hkb _
            have t2 : Below wk V0 ((V3.setCell ⟨b, 4, none⟩ (.slice aa n.affs.length ac)).setCell ⟨b, 5, none⟩ (.slice sa n.subs.length sc)) := t1.setCell (p := ⟨b, 5, none⟩) hkb _
            have t3 : Below wk V0 (((V3.setCell ⟨b, 4, none⟩ (.slice aa n.affs.length ac)).setCell ⟨b, 5, none⟩ (.slice sa n.subs.length sc)).setCell ⟨b, 6, none⟩ (.slice ia n.items.length ic)) := t2.setCell (p := ⟨b, 6, none⟩) hkb _
            refine anyH_skip (i := 10) (by kernel_rfl) rfl none rfl (by kernel_rfl) (ex_store rfl rfl rfl (store_any (size_one24 _) (box_cell f3 rfl) (box_froz f3))) t1 ?_
            simp only [Act.put]
            refine anyH_take (i := 11) (v := .pointer (some ⟨b, 5, none⟩)) rfl (some 13) rfl (by kernel_rfl) (by kernel_rfl) (by kernel_rfl) (fun _ _ _ h => by cases h.1) (by kernel_rfl) (fun _ _ => ex_fldNd5 rfl rfl) t1 ?_
            simp only [Act.put, List.setIfInBounds_toArray, List.set_cons_zero, List.set_cons_succ]
            refine anyH_skip (i := 12) (by kernel_rfl) rfl none rfl (by kernel_rfl) (ex_store rfl rfl rfl (store_any (size_one25 _) (box_cell h1 rfl) (box_froz h1))) t2 ?_
            simp only [Act.put]
            refine anyH_take (i := 13) (v := .pointer (some ⟨b, 6, none⟩)) rfl (some 14) rfl (by kernel_rfl) (by kernel_rfl) (by kernel_rfl) (fun _ _ _ h => by cases h.1) (by kernel_rfl) (fun _ _ => ex_fldNd6 rfl rfl) t2 ?_
            simp only [Act.put, List.setIfInBounds_toArray, List.set_cons_zero, List.set_cons_succ]
            refine anyH_skip (i := 14) (by kernel_rfl) rfl none rfl (by kernel_rfl) (ex_store rfl rfl rfl (store_any (size_one26 _) (box_cell h2 rfl) (box_froz h2))) t3 ?_
            simp only [Act.put]
            exact wpAnyH_done (by kernel_rfl) ⟨rfl, ⟨aa, ac, sa, sc, ia, ic⟩, fill (fresh_end hm f3 hbne (SV3.block r hrV) hr0 (hkW.trans t3) ma ms mi la ls li) (by kernel_rfl)⟩ _
          case p4x7 =>
            refine op_val rfl (some 10) rfl (by kernel_rfl) (ex_load rfl rfl (load_anyI ((SV1.cell (p := ⟨b, 6, none⟩) hbV).trans c6))) ?_
            refine ⟨SV1.mono hkV, ?_⟩
            simp only [Act.put, List.setIfInBounds_toArray, List.set_cons_zero, List.set_cons_succ]
            refine anyH_take (i := 9) (v := .pointer (some ⟨b, 4, none⟩)) rfl (some 12) rfl (by kernel_rfl) (by kernel_rfl) (by kernel_rfl) (fun _ _ _ h => by cases h.1) (by kernel_rfl) (fun _ _ => ex_fldNd4 rfl rfl) (SV1.mono hkV) ?_
            simp only [Act.put, List.setIfInBounds_toArray, List.set_cons_zero, List.set_cons_succ]
            refine anyH_one (i := 5) (by kernel_rfl) ?_
            refine op_call rfl (some 8) rfl (by kernel_rfl) #[.slice v.sa n.subs.length v.sc] rfl (by simp [Act.eval]) (fun _ _ => rfl) (copied_s v.sa v.sc n.subs V1 ((hm.ok.2.1.below (SV1.mono hkV)).raise (Nat.le_trans hkV SV1.size))) ?_
            rintro e V2 ⟨vs, rfl, os, b2⟩
            obtain ⟨sa, sc, rfl, ms_, ls, _, hs_⟩ := own_s os hm.ok.2.1.1
            have ms := And.intro ms_ (show ∀ a, sa = some a → a.block ≠ b ∧ a.block ≠ r ∧ wk ≤ a.block from fun a e => by have := (hs_ a e).1; have := SV1.size; omega)
            have SV2 : Below V0.heap.size V0 V2 := SV1.trans (b2.mono SV1.size)
            replace ma := And.intro ((ma.1.below b2).raise b2.size) ma.2
            refine ⟨_, rfl, SV2.mono hkV, ?_⟩
            simp only [Act.put, List.setIfInBounds_toArray, List.set_cons_zero, List.set_cons_succ]
            refine anyH_one (i := 8) (by kernel_rfl) ?_
            refine op_call rfl (some 11) rfl (by kernel_rfl) #[.slice v.ia n.items.length v.ic] rfl (by simp [Act.eval]) (fun _ _ => rfl) (copied_i v.ia v.ic n.items V2 ((hm.it.below (SV2.mono hkV)).raise (Nat.le_trans hkV SV2.size))) ?_
            rintro e V3 ⟨vi, rfl, oi, b3⟩
            obtain ⟨ia, ic, rfl, mi_, li, _, hi_⟩ := own_i oi hm.it.1
            have mi := And.intro mi_ (show ∀ a, ia = some a → a.block ≠ b ∧ a.block ≠ r ∧ wk ≤ a.block from fun a e => by have := (hi_ a e).1; have := SV2.size; omega)
            have SV3 : Below V0.heap.size V0 V3 := SV2.trans (b3.mono SV2.size)
            replace ma := And.intro ((ma.1.below b3).raise b3.size) ma.2
            replace ms := And.intro ((ms.1.below b3).raise b3.size) ms.2
            refine ⟨_, rfl, SV3.mono hkV, ?_⟩
            simp only [Act.put, List.setIfInBounds_toArray, List.set_cons_zero, List.set_cons_succ]
            have f3 := (SV3.block b hbV).trans f0
            have h1 := heap_setk (i := 4) (v := .slice aa n.affs.length ac) f3
            have h2 := heap_setk (i := 5) (v := .slice sa n.subs.length sc) h1
            have h3 := heap_setk (i := 6) (v := .slice ia n.items.length ic) h2
            have t0 : Below wk V0 V3 := SV3.mono hkV
            have t1 : Below wk V0 (V3.setCell ⟨b, 4, none⟩ (.slice aa n.affs.length ac)) := t0.setCell (p := ⟨b, 4, none⟩) hkb _
            have t2 : Below wk V0 ((V3.setCell ⟨b, 4, none⟩ (.slice aa n.affs.length ac)).setCell ⟨b, 5, none⟩ (.slice sa n.subs.length sc)) := t1.setCell (p := ⟨b, 5, none⟩) hkb _
            have t3 : Below wk V0 (((V3.setCell ⟨b, 4, none⟩ (.slice aa n.affs.length ac)).setCell ⟨b, 5, none⟩ (.slice sa n.subs.length sc)).setCell ⟨b, 6, none⟩ (.slice ia n.items.length ic)) := t2.setCell (p := ⟨b, 6, none⟩) hkb _
            refine anyH_skip (i := 10) (by kernel_rfl) rfl none rfl (by kernel_rfl) (ex_store rfl rfl rfl (store_any (size_one24 _) (box_cell f3 rfl) (box_froz f3))) t1 ?_
            simp only [Act.put]
            refine anyH_take (i := 11) (v := .pointer (some ⟨b, 5, none⟩)) rfl (some 13) rfl (by kernel_rfl) (by kernel_rfl) (by kernel_rfl) (fun _ _ _ h => by cases h.1) (by kernel_rfl) (fun _ _ => ex_fldNd5 rfl rfl) t1 ?_
            simp only [Act.put, List.setIfInBounds_toArray, List.set_cons_zero, List.set_cons_succ]
            refine anyH_skip (i := 12) (by kernel_rfl) rfl none rfl (by kernel_rfl) (ex_store rfl rfl rfl (store_any (size_one25 _) (box_cell h1 rfl) (box_froz h1))) t2 ?_
            simp only [Act.put]
            refine anyH_take (i := 13) (v := .pointer (some ⟨b, 6, none⟩)) rfl (some 14) rfl (by kernel_rfl) (by kernel_rfl) (by kernel_rfl) (fun _ _ _ h => by cases h.1) (by kernel_rfl) (fun _ _ => ex_fldNd6 rfl rfl) t2 ?_
            simp only [Act.put, List.setIfInBounds_toArray, List.set_cons_zero, List.set_cons_succ]
            refine anyH_skip (i := 14) (by kernel_rfl) rfl none rfl (by kernel_rfl) (ex_store rfl rfl rfl (store_any (size_one26 _) (box_cell h2 rfl) (box_froz h2))) t3 ?_
            simp only [Act.put]
            exact wpAnyH_done (by kernel_rfl) ⟨rfl, ⟨aa, ac, sa, sc, ia, ic⟩, fill (fresh_end hm f3 hbne (SV3.block r hrV) hr0 (hkW.trans t3) ma ms mi la ls li) (by kernel_rfl)⟩ _
        case p3x7 =>
          refine op_val rfl (some 10) rfl (by kernel_rfl) (ex_load rfl rfl (load_anyI ((SV1.cell (p := ⟨b, 6, none⟩) hbV).trans c6))) ?_
          refine ⟨SV1.mono hkV, ?_⟩
          simp only [Act.put, List.setIfInBounds_toArray, List.set_cons_zero, List.set_cons_succ]
          refine anyH_one (i := 4) (by kernel_rfl) ?_
          refine op_val rfl (some 7) rfl (by kernel_rfl) (ex_load rfl rfl (load_anyS ((SV1.cell (p := ⟨b, 5, none⟩) hbV).trans c5))) ?_
          refine ⟨SV1.mono hkV, ?_⟩
          simp only [Act.put, List.setIfInBounds_toArray, List.set_cons_zero, List.set_cons_succ]
          refine anyH_take (i := 9) (v := .pointer (some ⟨b, 4, none⟩)) rfl (some 12) rfl (by kernel_rfl) (by kernel_rfl) (by kernel_rfl) (fun _ _ _ h => by cases h.1) (by kernel_rfl) (fun _ _ => ex_fldNd4 rfl rfl) (SV1.mono hkV) ?_
          simp only [Act.put, List.setIfInBounds_toArray, List.set_cons_zero, List.set_cons_succ]
          refine anyH_one (i := 5) (by kernel_rfl) ?_
          refine op_call rfl (some 8) rfl (by kernel_rfl) #[.slice v.sa n.subs.length v.sc] rfl (by simp [Act.eval]) (fun _ _ => rfl) (copied_s v.sa v.sc n.subs V1 ((hm.ok.2.1.below (SV1.mono hkV)).raise (Nat.le_trans hkV SV1.size))) ?_
          rintro e V2 ⟨vs, rfl, os, b2⟩
          obtain ⟨sa, sc, rfl, ms_, ls, _, hs_⟩ := own_s os hm.ok.2.1.1
          have ms := And.intro ms_ (show ∀ a, sa = some a → a.block ≠ b ∧ a.block ≠ r ∧ wk ≤ a.block from fun a e => by have := (hs_ a e).1; have := SV1.size; omega)
          have SV2 : Below V0.heap.size V0 V2 := SV1.trans (b2.mono SV1.size)
          replace ma := And.intro ((ma.1.below b2).raise b2.size) ma.2
          refine ⟨_, rfl, SV2.mono hkV, ?_⟩
          simp only [Act.put, List.setIfInBounds_toArray, List.set_cons_zero, List.set_cons_succ]
          refine anyH_one (i := 8) (by kernel_rfl) ?_
          refine op_call rfl (some 11) rfl (by kernel_rfl) #[.slice v.ia n.items.length v.ic] rfl (by simp [Act.eval]) (fun _ _ => rfl) (copied_i v.ia v.ic n.items V2 ((hm.it.below (SV2.mono hkV)).raise (Nat.le_trans hkV SV2.size))) ?_
          rintro e V3 ⟨vi, rfl, oi, b3⟩
          obtain ⟨ia, ic, rfl, mi_, li, _, hi_⟩ := own_i oi hm.it.1
          have mi := And.intro mi_ (show ∀ a, ia = some a → a.block ≠ b ∧ a.block ≠ r ∧ wk ≤ a.block from fun a e => by have := (hi_ a e).1; have := SV2.size; omega)
          have SV3 : Below V0.heap.size V0 V3 := SV2.trans (b3.mono SV2.size)
          replace ma := And.intro ((ma.1.below b3).raise b3.size) ma.2
          replace ms := And.intro ((ms.1.below b3).raise b3.size) ms.2
          refine ⟨_, rfl, SV3.mono hkV, ?_⟩
          simp only [Act.put, List.setIfInBounds_toArray, List.set_cons_zero, List.set_cons_succ]
          have f3 := (SV3.block b hbV).trans f0
          have h1 := heap_setk (i := 4) (v := .slice aa n.affs.length ac) f3
          have h2 := heap_setk (i := 5) (v := .slice sa n.subs.length sc) h1
          have h3 := heap_setk (i := 6) (v := .slice ia n.items.length ic) h2
          have t0 : Below wk V0 V3 := SV3.mono hkV
          have t1 : Below wk V0 (V3.setCell ⟨b, 4, none⟩ (.slice aa n.affs.length ac)) := t0.setCell (p := ⟨b, 4, none⟩) hkb _
          have t2 : Below wk V0 ((V3.setCell ⟨b, 4, none⟩ (.slice aa n.affs.length ac)).setCell ⟨b, 5, none⟩ (.slice sa n.subs.length sc)) := t1.setCell (p := ⟨b, 5, none⟩) hkb _
          have t3 : Below wk V0 (((V3.setCell ⟨b, 4, none⟩ (.slice aa n.affs.length ac)).setCell ⟨b, 5, none⟩ (.slice sa n.subs.length sc)).setCell ⟨b, 6, none⟩ (.slice ia n.items.length ic)) := t2.setCell (p := ⟨b, 6, none⟩) hkb _
          refine anyH_skip (i := 10) (by kernel_rfl) rfl none rfl (by kernel_rfl) (ex_store rfl rfl rfl (store_any (size_one24 _) (box_cell f3 rfl) (box_froz f3))) t1 ?_
          simp only [Act.put]
          refine anyH_take (i := 11) (v := .pointer (some ⟨b, 5, none⟩)) rfl (some 13) rfl (by kernel_rfl) (by kernel_rfl) (by kernel_rfl) (fun _ _ _ h => by cases h.1) (by kernel_rfl) (fun _ _ => ex_fldNd5 rfl rfl) t1 ?_
          simp only [Act.put, List.setIfInBounds_toArray, List.set_cons_zero, List.set_cons_succ]
          refine anyH_skip (i := 12) (by kernel_rfl) rfl none rfl (by kernel_rfl) (ex_store rfl rfl rfl (store_any (size_one25 _) (box_cell h1 rfl) (box_froz h1))) t2 ?_
          simp only [Act.put]
          refine anyH_take (i := 13) (v := .pointer (some ⟨b, 6, none⟩)) rfl (some 14) rfl (by kernel_rfl) (by kernel_rfl) (by kernel_rfl) (fun _ _ _ h => by cases h.1) (by kernel_rfl) (fun _ _ => ex_fldNd6 rfl rfl) t2 ?_
          simp only [Act.put, List.setIfInBounds_toArray, List.set_cons_zero, List.set_cons_succ]
          refine anyH_skip (i := 14) (by kernel_rfl) rfl none rfl (by kernel_rfl) (ex_store rfl rfl rfl (store_any (size_one26 _) (box_cell h2 rfl) (box_froz h2))) t3 ?_
          simp only [Act.put]
          exact wpAnyH_done (by kernel_rfl) ⟨rfl, ⟨aa, ac, sa, sc, ia, ic⟩, fill (fresh_end hm f3 hbne (SV3.block r hrV) hr0 (hkW.trans t3) ma ms mi la ls li) (by kernel_rfl)⟩ _
      case p2x4 =>
        refine op_val rfl (some 7) rfl (by kernel_rfl) (ex_load rfl rfl (load_anyS ((SV0.cell (p := ⟨b, 5, none⟩) hbV).trans c5))) ?_
        refine ⟨SV0.mono hkV, ?_⟩
        simp only [Act.put, List.setIfInBounds_toArray, List.set_cons_zero, List.set_cons_succ]
        refine anyH_two (i := 2) (j := 7) (by kernel_rfl) ?p5x2 ?p5x7
        case p5x2 =>
          refine op_call rfl (some 5) rfl (by kernel_rfl) #[.slice v.aa n.affs.length v.ac] rfl (by simp [Act.eval]) (fun _ _ => rfl) (copied_a v.aa v.ac n.affs V0 ((hm.ok.1.below (SV0.mono hkV)).raise (Nat.le_trans hkV SV0.size))) ?_
          rintro e V1 ⟨va, rfl, oa, b1⟩
          obtain ⟨aa, ac, rfl, ma_, la, _, ha_⟩ := own_a oa hm.ok.1.1
          have ma := And.intro ma_ (show ∀ a, aa = some a → a.block ≠ b ∧ a.block ≠ r ∧ wk ≤ a.block from fun a e => by have := (ha_ a e).1; have := SV0.size; omega)
          have SV1 : Below V0.heap.size V0 V1 := SV0.trans (b1.mono SV0.size)
          refine ⟨_, rfl, SV1.mono hkV, ?_⟩
          simp only [Act.put, List.setIfInBounds_toArray, List.set_cons_zero, List.set_cons_succ]
          refine anyH_two (i := 5) (j := 7) (by kernel_rfl) ?p6x5 ?p6x7
          case p6x5 =>
            refine op_call rfl (some 8) rfl (by kernel_rfl) #[.slice v.sa n.subs.length v.sc] rfl (by simp [Act.eval]) (fun _ _ => rfl) (copied_s v.sa v.sc n.subs V1 ((hm.ok.2.1.below (SV1.mono hkV)).raise (Nat.le_trans hkV SV1.size))) ?_
            rintro e V2 ⟨vs, rfl, os, b2⟩
            obtain ⟨sa, sc, rfl, ms_, ls, _, hs_⟩ := own_s os hm.ok.2.1.1
            have ms := And.intro ms_ (show ∀ a, sa = some a → a.block ≠ b ∧ a.block ≠ r ∧ wk ≤ a.block from fun a e => by have := (hs_ a e).1; have := SV1.size; omega)
            have SV2 : Below V0.heap.size V0 V2 := SV1.trans (b2.mono SV1.size)
            replace ma := And.intro ((ma.1.below b2).raise b2.size) ma.2
            refine ⟨_, rfl, SV2.mono hkV, ?_⟩
            simp only [Act.put, List.setIfInBounds_toArray, List.set_cons_zero, List.set_cons_succ]
            refine anyH_one (i := 7) (by kernel_rfl) ?_
            refine op_val rfl (some 10) rfl (by kernel_rfl) (ex_load rfl rfl (load_anyI ((SV2.cell (p := ⟨b, 6, none⟩) hbV).trans c6))) ?_
            refine ⟨SV2.mono hkV, ?_⟩
            simp only [Act.put, List.setIfInBounds_toArray, List.set_cons_zero, List.set_cons_succ]
            refine anyH_take (i := 9) (v := .pointer (some ⟨b, 4, none⟩)) rfl (some 12) rfl (by kernel_rfl) (by kernel_rfl) (by kernel_rfl) (fun _ _ _ h => by cases h.1) (by kernel_rfl) (fun _ _ => ex_fldNd4 rfl rfl) (SV2.mono hkV) ?_
            simp only [Act.put, List.setIfInBounds_toArray, List.set_cons_zero, List.set_cons_succ]
            refine anyH_one (i := 8) (by kernel_rfl) ?_
            refine op_call rfl (some 11) rfl (by kernel_rfl) #[.slice v.ia n.items.length v.ic] rfl (by simp [Act.eval]) (fun _ _ => rfl) (copied_i v.ia v.ic n.items V2 ((hm.it.below (SV2.mono hkV)).raise (Nat.le_trans hkV SV2.size))) ?_
            rintro e V3 ⟨vi, rfl, oi, b3⟩
            obtain ⟨ia, ic, rfl, mi_, li, _, hi_⟩ := own_i oi hm.it.1
            have mi := And.intro mi_ (show ∀ a, ia = some a → a.block ≠ b ∧ a.block ≠ r ∧ wk ≤ a.block from fun a e => by have := (hi_ a e).1; have := SV2.size; omega)
            have SV3 : Below V0.heap.size V0 V3 := SV2.trans (b3.mono SV2.size)
            replace ma := And.intro ((ma.1.below b3).raise b3.size) ma.2
            replace ms := And.intro ((ms.1.below b3).raise b3.size) ms.2
            refine ⟨_, rfl, SV3.mono hkV, ?_⟩
            simp only [Act.put, List.setIfInBounds_toArray, List.set_cons_zero, List.set_cons_succ]
            have f3 := (SV3.block b hbV).trans f0
            have h1 := heap_setk (i := 4) (v := .slice aa n.affs.length ac) f3
            have h2 := heap_setk (i := 5) (v := .slice sa n.subs.length sc) h1
            have h3 := heap_setk (i := 6) (v := .slice ia n.items.length ic) h2
            have t0 : Below wk V0 V3 := SV3.mono hkV
            have t1 : Below wk V0 (V3.setCell ⟨b, 4, none⟩ (.slice aa n.affs.length ac)) := t0.setCell (p := ⟨b, 4, none⟩) hkb _
            have t2 : Below wk V0 ((V3.setCell ⟨b, 4, none⟩ (.slice aa n.affs.length ac)).setCell ⟨b, 5, none⟩ (.slice sa n.subs.length sc)) := t1.setCell (p := ⟨b, 5, none⟩) hkb _
            have t3 : Below wk V0 (((V3.setCell ⟨b, 4, none⟩ (.slice aa n.affs.length ac)).setCell ⟨b, 5, none⟩ (.slice sa n.subs.length sc)).setCell ⟨b, 6, none⟩ (.slice ia n.items.length ic)) := t2.setCell (p := ⟨b, 6, none⟩) hkb _
            refine anyH_skip (i := 10) (by kernel_rfl) rfl none rfl (by kernel_rfl) (ex_store rfl rfl rfl (store_any (size_one24 _) (box_cell f3 rfl) (box_froz f3))) t1 ?_
            simp only [Act.put]
            refine anyH_take (i := 11) (v := .pointer (some ⟨b, 5, none⟩)) rfl (some 13) rfl (by kernel_rfl) (by kernel_rfl) (by kernel_rfl) (fun _ _ _ h => by cases h.1) (by kernel_rfl) (fun _ _ => ex_fldNd5 rfl rfl) t1 ?_
            simp only [Act.put, List.setIfInBounds_toArray, List.set_cons_zero, List.set_cons_succ]
            refine anyH_skip (i := 12) (by kernel_rfl) rfl none rfl (by kernel_rfl) (ex_store rfl rfl rfl (store_any (size_one25 _) (box_cell h1 rfl) (box_froz h1))) t2 ?_
            simp only [Act.put]
            refine anyH_take (i := 13) (v := .pointer (some ⟨b, 6, none⟩)) rfl (some 14) rfl (by kernel_rfl) (by kernel_rfl) (by kernel_rfl) (fun _ _ _ h => by cases h.1) (by kernel_rfl) (fun _ _ => ex_fldNd6 rfl rfl) t2 ?_
            simp only [Act.put, List.setIfInBounds_toArray, List.set_cons_zero, List.set_cons_succ]
            refine anyH_skip (i := 14) (by kernel_rfl) rfl none rfl (by kernel_rfl) (ex_store rfl rfl rfl (store_any (size_one26 _) (box_cell h2 rfl) (box_froz h2))) t3 ?_
            simp only [Act.put]
            exact wpAnyH_done (by kernel_rfl) ⟨rfl, ⟨aa, ac, sa, sc, ia, ic⟩, fill (fresh_end hm f3 hbne (SV3.block r hrV) hr0 (hkW.trans t3) ma ms mi la ls li) (by kernel_rfl)⟩ _
          case p6x7 =>
            refine op_val rfl (some 10) rfl (by kernel_rfl) (ex_load rfl rfl (load_anyI ((SV1.cell (p := ⟨b, 6, none⟩) hbV).trans c6))) ?_
            refine ⟨SV1.mono hkV, ?_⟩
            simp only [Act.put, List.setIfInBounds_toArray, List.set_cons_zero, List.set_cons_succ]
            refine anyH_take (i := 9) (v := .pointer (some ⟨b, 4, none⟩)) rfl (some 12) rfl (by kernel_rfl) (by kernel_rfl) (by kernel_rfl) (fun _ _ _ h => by cases h.1) (by kernel_rfl) (fun _ _ => ex_fldNd4 rfl rfl) (SV1.mono hkV) ?_
            simp only [Act.put, List.setIfInBounds_toArray, List.set_cons_zero, List.set_cons_succ]
            refine anyH_one (i := 5) (by kernel_rfl) ?_
            refine op_call rfl (some 8) rfl (by kernel_rfl) #[.slice v.sa n.subs.length v.sc] rfl (by simp [Act.eval]) (fun _ _ => rfl) (copied_s v.sa v.sc n.subs V1 ((hm.ok.2.1.below (SV1.mono hkV)).raise (Nat.le_trans hkV SV1.size))) ?_
            rintro e V2 ⟨vs, rfl, os, b2⟩
            obtain ⟨sa, sc, rfl, ms_, ls, _, hs_⟩ := own_s os hm.ok.2.1.1
            have ms := And.intro ms_ (show ∀ a, sa = some a → a.block ≠ b ∧ a.block ≠ r ∧ wk ≤ a.block from fun a e => by have := (hs_ a e).1; have := SV1.size; omega)
            have SV2 : Below V0.heap.size V0 V2 := SV1.trans (b2.mono SV1.size)
            replace ma := And.intro ((ma.1.below b2).raise b2.size) ma.2
            refine ⟨_, rfl, SV2.mono hkV, ?_⟩
            simp only [Act.put, List.setIfInBounds_toArray, List.set_cons_zero, List.set_cons_succ]
            refine anyH_one (i := 8) (by kernel_rfl) ?_
            refine op_call rfl (some 11) rfl (by kernel_rfl) #[.slice v.ia n.items.length v.ic] rfl (by simp [Act.eval]) (fun _ _ => rfl) (copied_i v.ia v.ic n.items V2 ((hm.it.below (SV2.mono hkV)).raise (Nat.le_trans hkV SV2.size))) ?_
            rintro e V3 ⟨vi, rfl, oi, b3⟩
            obtain ⟨ia, ic, rfl, mi_, li, _, hi_⟩ := own_i oi hm.it.1
            have mi := And.intro mi_ (show ∀ a, ia = some a → a.block ≠ b ∧ a.block ≠ r ∧ wk ≤ a.block from fun a e => by have := (hi_ a e).1; have := SV2.size; omega)
            have SV3 : Below V0.heap.size V0 V3 := SV2.trans (b3.mono SV2.size)
            replace ma := And.intro ((ma.1.below b3).raise b3.size) ma.2
            replace ms := And.intro ((ms.1.below b3).raise b3.size) ms.2
            refine ⟨_, rfl, SV3.mono hkV, ?_⟩
            simp only [Act.put, List.setIfInBounds_toArray, List.set_cons_zero, List.set_cons_succ]
            have f3 := (SV3.block b hbV).trans f0
            have h1 := heap_setk (i := 4) (v := .slice aa n.affs.length ac) f3
            have h2 := heap_setk (i := 5) (v := .slice sa n.subs.length sc) h1
            have h3 := heap_setk (i := 6) (v := .slice ia n.items.length ic) h2
            have t0 : Below wk V0 V3 := SV3.mono hkV
            have t1 : Below wk V0 (V3.setCell ⟨b, 4, none⟩ (.slice aa n.affs.length ac)) := t0.setCell (p := ⟨b, 4, none⟩) hkb _
            have t2 : Below wk V0 ((V3.setCell ⟨b, 4, none⟩ (.slice aa n.affs.length ac)).setCell ⟨b, 5, none⟩ (.slice sa n.subs.length sc)) := t1.setCell (p := ⟨b, 5, none⟩) hkb _
            have t3 : Below wk V0 (((V3.setCell ⟨b, 4, none⟩ (.slice aa n.affs.length ac)).setCell ⟨b, 5, none⟩ (.slice sa n.subs.length sc)).setCell ⟨b, 6, none⟩ (.slice ia n.items.length ic)) := t2.setCell (p := ⟨b, 6, none⟩) hkb _
            refine anyH_skip (i := 10) (by kernel_rfl) rfl none rfl (by kernel_rfl) (ex_store rfl rfl rfl (store_any (size_one24 _) (box_cell f3 rfl) (box_froz f3))) t1 ?_
            simp only [Act.put]
            refine anyH_take (i := 11) (v := .pointer (some ⟨b, 5, none⟩)) rfl (some 13) rfl (by kernel_rfl) (by kernel_rfl) (by kernel_rfl) (fun _ _ _ h => by cases h.1) (by kernel_rfl) (fun _ _ => ex_fldNd5 rfl rfl) t1 ?_
            simp only [Act.put, List.setIfInBounds_toArray, List.set_cons_zero, List.set_cons_succ]
            refine anyH_skip (i := 12) (by kernel_rfl) rfl none rfl (by kernel_rfl) (ex_store rfl rfl rfl (store_any (size_one25 _) (box_cell h1 rfl) (box_froz h1))) t2 ?_
            simp only [Act.put]
            refine anyH_take (i := 13) (v := .pointer (some ⟨b, 6, none⟩)) rfl (some 14) rfl (by kernel_rfl) (by kernel_rfl) (by kernel_rfl) (fun _ _ _ h => by cases h.1) (by kernel_rfl) (fun _ _ => ex_fldNd6 rfl rfl) t2 ?_
            simp only [Act.put, List.setIfInBounds_toArray, List.set_cons_zero, List.set_cons_succ]
            refine anyH_skip (i := 14) (by kernel_rfl) rfl none rfl (by kernel_rfl) (ex_store rfl rfl rfl (store_any (size_one26 _) (box_cell h2 rfl) (box_froz h2))) t3 ?_
            simp only [Act.put]
            exact wpAnyH_done (by kernel_rfl) ⟨rfl, ⟨aa, ac, sa, sc, ia, ic⟩, fill (fresh_end hm f3 hbne (SV3.block r hrV) hr0 (hkW.trans t3) ma ms mi la ls li) (by kernel_rfl)⟩ _
        case p5x7 =>
          refine op_val rfl (some 10) rfl (by kernel_rfl) (ex_load rfl rfl (load_anyI ((SV0.cell (p := ⟨b, 6, none⟩) hbV).trans c6))) ?_
          refine ⟨SV0.mono hkV, ?_⟩
          simp only [Act.put, List.setIfInBounds_toArray, List.set_cons_zero, List.set_cons_succ]
          refine anyH_one (i := 2) (by kernel_rfl) ?_
          refine op_call rfl (some 5) rfl (by kernel_rfl) #[.slice v.aa n.affs.length v.ac] rfl (by simp [Act.eval]) (fun _ _ => rfl) (copied_a v.aa v.ac n.affs V0 ((hm.ok.1.below (SV0.mono hkV)).raise (Nat.le_trans hkV SV0.size))) ?_
          rintro e V1 ⟨va, rfl, oa, b1⟩
          obtain ⟨aa, ac, rfl, ma_, la, _, ha_⟩ := own_a oa hm.ok.1.1
          have ma := And.intro ma_ (show ∀ a, aa = some a → a.block ≠ b ∧ a.block ≠ r ∧ wk ≤ a.block from fun a e => by have := (ha_ a e).1; have := SV0.size; omega)
          have SV1 : Below V0.heap.size V0 V1 := SV0.trans (b1.mono SV0.size)
          refine ⟨_, rfl, SV1.mono hkV, ?_⟩
          simp only [Act.put, List.setIfInBounds_toArray, List.set_cons_zero, List.set_cons_succ]
          refine anyH_take (i := 9) (v := .pointer (some ⟨b, 4, none⟩)) rfl (some 12) rfl (by kernel_rfl) (by kernel_rfl) (by kernel_rfl) (fun _ _ _ h => by cases h.1) (by kernel_rfl) (fun _ _ => ex_fldNd4 rfl rfl) (SV1.mono hkV) ?_
          simp only [Act.put, List.setIfInBounds_toArray, List.set_cons_zero, List.set_cons_succ]
          refine anyH_one (i := 5) (by kernel_rfl) ?_
          refine op_call rfl (some 8) rfl (by kernel_rfl) #[.slice v.sa n.subs.length v.sc] rfl (by simp [Act.eval]) (fun _ _ => rfl) (copied_s v.sa v.sc n.subs V1 ((hm.ok.2.1.below (SV1.mono hkV)).raise (Nat.le_trans hkV SV1.size))) ?_
          rintro e V2 ⟨vs, rfl, os, b2⟩
          obtain ⟨sa, sc, rfl, ms_, ls, _, hs_⟩ := own_s os hm.ok.2.1.1
          have ms := And.intro ms_ (show ∀ a, sa = some a → a.block ≠ b ∧ a.block ≠ r ∧ wk ≤ a.block from fun a e => by have := (hs_ a e).1; have := SV1.size; omega)
          have SV2 : Below V0.heap.size V0 V2 := SV1.trans (b2.mono SV1.size)
          replace ma := And.intro ((ma.1.below b2).raise b2.size) ma.2
          refine ⟨_, rfl, SV2.mono hkV, ?_⟩
          simp only [Act.put, List.setIfInBounds_toArray, List.set_cons_zero, List.set_cons_succ]
          refine anyH_one (i := 8) (by kernel_rfl) ?_
          refine op_call rfl (some 11) rfl (by kernel_rfl) #[.slice v.ia n.items.length v.ic] rfl (by simp [Act.eval]) (fun _ _ => rfl) (copied_i v.ia v.ic n.items V2 ((hm.it.below (SV2.mono hkV)).raise (Nat.le_trans hkV SV2.size))) ?_
          rintro e V3 ⟨vi, rfl, oi, b3⟩
          obtain ⟨ia, ic, rfl, mi_, li, _, hi_⟩ := own_i oi hm.it.1
          have mi := And.intro mi_ (show ∀ a, ia = some a → a.block ≠ b ∧ a.block ≠ r ∧ wk ≤ a.block from fun a e => by have := (hi_ a e).1; have := SV2.size; omega)
          have SV3 : Below V0.heap.size V0 V3 := SV2.trans (b3.mono SV2.size)
          replace ma := And.intro ((ma.1.below b3).raise b3.size) ma.2
          replace ms := And.intro ((ms.1.below b3).raise b3.size) ms.2
          refine ⟨_, rfl, SV3.mono hkV, ?_⟩
          simp only [Act.put, List.setIfInBounds_toArray, List.set_cons_zero, List.set_cons_succ]
          have f3 := (SV3.block b hbV).trans f0
          have h1 := heap_setk (i := 4) (v := .slice aa n.affs.length ac) f3
          have h2 := heap_setk (i := 5) (v := .slice sa n.subs.length sc) h1
          have h3 := heap_setk (i := 6) (v := .slice ia n.items.length ic) h2
          have t0 : Below wk V0 V3 := SV3.mono hkV
          have t1 : Below wk V0 (V3.setCell ⟨b, 4, none⟩ (.slice aa n.affs.length ac)) := t0.setCell (p := ⟨b, 4, none⟩) hkb _
          have t2 : Below wk V0 ((V3.setCell ⟨b, 4, none⟩ (.slice aa n.affs.length ac)).setCell ⟨b, 5, none⟩ (.slice sa n.subs.length sc)) := t1.setCell (p := ⟨b, 5, none⟩) hkb _
          have t3 : Below wk V0 (((V3.setCell ⟨b, 4, none⟩ (.slice aa n.affs.length ac)).setCell ⟨b, 5, none⟩ (.slice sa n.subs.length sc)).setCell ⟨b, 6, none⟩ (.slice ia n.items.length ic)) := t2.setCell (p := ⟨b, 6, none⟩) hkb _
          refine anyH_skip (i := 10) (by kernel_rfl) rfl none rfl (by kernel_rfl) (ex_store rfl rfl rfl (store_any (size_one24 _) (box_cell f3 rfl) (box_froz f3))) t1 ?_
          simp only [Act.put]
          refine anyH_take (i := 11) (v := .pointer (some ⟨b, 5, none⟩)) rfl (some 13) rfl (by kernel_rfl) (by kernel_rfl) (by kernel_rfl) (fun _ _ _ h => by cases h.1) (by kernel_rfl) (fun _ _ => ex_fldNd5 rfl rfl) t1 ?_
          simp only [Act.put, List.setIfInBounds_toArray, List.set_cons_zero, List.set_cons_succ]
          refine anyH_skip (i := 12) (by kernel_rfl) rfl none rfl (by kernel_rfl) (ex_store rfl rfl rfl (store_any (size_one25 _) (box_cell h1 rfl) (box_froz h1))) t2 ?_
          simp only [Act.put]
          refine anyH_take (i := 13) (v := .pointer (some ⟨b, 6, none⟩)) rfl (some 14) rfl (by kernel_rfl) (by kernel_rfl) (by kernel_rfl) (fun _ _ _ h => by cases h.1) (by kernel_rfl) (fun _ _ => ex_fldNd6 rfl rfl) t2 ?_
          simp only [Act.put, List.setIfInBounds_toArray, List.set_cons_zero, List.set_cons_succ]
          refine anyH_skip (i := 14) (by kernel_rfl) rfl none rfl (by kernel_rfl) (ex_store rfl rfl rfl (store_any (size_one26 _) (box_cell h2 rfl) (box_froz h2))) t3 ?_
          simp only [Act.put]
          exact wpAnyH_done (by kernel_rfl) ⟨rfl, ⟨aa, ac, sa, sc, ia, ic⟩, fill (fresh_end hm f3 hbne (SV3.block r hrV) hr0 (hkW.trans t3) ma ms mi la ls li) (by kernel_rfl)⟩ _
      case p2x7 =>
        refine op_val rfl (some 10) rfl (by kernel_rfl) (ex_load rfl rfl (load_anyI ((SV0.cell (p := ⟨b, 6, none⟩) hbV).trans c6))) ?_
        refine ⟨SV0.mono hkV, ?_⟩
        simp only [Act.put, List.setIfInBounds_toArray, List.set_cons_zero, List.set_cons_succ]
        refine anyH_two (i := 2) (j := 4) (by kernel_rfl) ?p7x2 ?p7x4
        case p7x2 =>
          refine op_call rfl (some 5) rfl (by kernel_rfl) #[.slice v.aa n.affs.length v.ac] rfl (by simp [Act.eval]) (fun _ _ => rfl) (copied_a v.aa v.ac n.affs V0 ((hm.ok.1.below (SV0.mono hkV)).raise (Nat.le_trans hkV SV0.size))) ?_
          rintro e V1 ⟨va, rfl, oa, b1⟩
          obtain ⟨aa, ac, rfl, ma_, la, _, ha_⟩ := own_a oa hm.ok.1.1
          have ma := And.intro ma_ (show ∀ a, aa = some a → a.block ≠ b ∧ a.block ≠ r ∧ wk ≤ a.block from fun a e => by have := (ha_ a e).1; have := SV0.size; omega)
          have SV1 : Below V0.heap.size V0 V1 := SV0.trans (b1.mono SV0.size)
          refine ⟨_, rfl, SV1.mono hkV, ?_⟩
          simp only [Act.put, List.setIfInBounds_toArray, List.set_cons_zero, List.set_cons_succ]
          refine anyH_one (i := 4) (by kernel_rfl) ?_
          refine op_val rfl (some 7) rfl (by kernel_rfl) (ex_load rfl rfl (load_anyS ((SV1.cell (p := ⟨b, 5, none⟩) hbV).trans c5))) ?_
          refine ⟨SV1.mono hkV, ?_⟩
          simp only [Act.put, List.setIfInBounds_toArray, List.set_cons_zero, List.set_cons_succ]
          refine anyH_take (i := 9) (v := .pointer (some ⟨b, 4, none⟩)) rfl (some 12) rfl (by kernel_rfl) (by kernel_rfl) (by kernel_rfl) (fun _ _ _ h => by cases h.1) (by kernel_rfl) (fun _ _ => ex_fldNd4 rfl rfl) (SV1.mono hkV) ?_
          simp only [Act.put, List.setIfInBounds_toArray, List.set_cons_zero, List.set_cons_succ]
          refine anyH_one (i := 5) (by kernel_rfl) ?_
          refine op_call rfl (some 8) rfl (by kernel_rfl) #[.slice v.sa n.subs.length v.sc] rfl (by simp [Act.eval]) (fun _ _ => rfl) (copied_s v.sa v.sc n.subs V1 ((hm.ok.2.1.below (SV1.mono hkV)).raise (Nat.le_trans hkV SV1.size))) ?_
          rintro e V2 ⟨vs, rfl, os, b2⟩
          obtain ⟨sa, sc, rfl, ms_, ls, _, hs_⟩ := own_s os hm.ok.2.1.1
          have ms := And.intro ms_ (show ∀ a, sa = some a → a.block ≠ b ∧ a.block ≠ r ∧ wk ≤ a.block from fun a e => by have := (hs_ a e).1; have := SV1.size; omega)
          have SV2 : Below V0.heap.size V0 V2 := SV1.trans (b2.mono SV1.size)
          replace ma := And.intro ((ma.1.below b2).raise b2.size) ma.2
          refine ⟨_, rfl, SV2.mono hkV, ?_⟩
          simp only [Act.put, List.setIfInBounds_toArray, List.set_cons_zero, List.set_cons_succ]
          refine anyH_one (i := 8) (by kernel_rfl) ?_
          refine op_call rfl (some 11) rfl (by kernel_rfl) #[.slice v.ia n.items.length v.ic] rfl (by simp [Act.eval]) (fun _ _ => rfl) (copied_i v.ia v.ic n.items V2 ((hm.it.below (SV2.mono hkV)).raise (Nat.le_trans hkV SV2.size))) ?_
          rintro e V3 ⟨vi, rfl, oi, b3⟩
          obtain ⟨ia, ic, rfl, mi_, li, _, hi_⟩ := own_i oi hm.it.1
          have mi := And.intro mi_ (show ∀ a, ia = some a → a.block ≠ b ∧ a.block ≠ r ∧ wk ≤ a.block from fun a e => by have := (hi_ a e).1; have := SV2.size; omega)
          have SV3 : Below V0.heap.size V0 V3 := SV2.trans (b3.mono SV2.size)
          replace ma := And.intro ((ma.1.below b3).raise b3.size) ma.2
          replace ms := And.intro ((ms.1.below b3).raise b3.size) ms.2
          refine ⟨_, rfl, SV3.mono hkV, ?_⟩
          simp only [Act.put, List.setIfInBounds_toArray, List.set_cons_zero, List.set_cons_succ]
          have f3 := (SV3.block b hbV).trans f0
          have h1 := heap_setk (i := 4) (v := .slice aa n.affs.length ac) f3
          have h2 := heap_setk (i := 5) (v := .slice sa n.subs.length sc) h1
          have h3 := heap_setk (i := 6) (v := .slice ia n.items.length ic) h2
          have t0 : Below wk V0 V3 := SV3.mono hkV
          have t1 : Below wk V0 (V3.setCell ⟨b, 4, none⟩ (.slice aa n.affs.length ac)) := t0.setCell (p := ⟨b, 4, none⟩) hkb _
          have t2 : Below wk V0 ((V3.setCell ⟨b, 4, none⟩ (.slice aa n.affs.length ac)).setCell ⟨b, 5, none⟩ (.slice sa n.subs.length sc)) := t1.setCell (p := ⟨b, 5, none⟩) hkb _
          have t3 : Below wk V0 (((V3.setCell ⟨b, 4, none⟩ (.slice aa n.affs.length ac)).setCell ⟨b, 5, none⟩ (.slice sa n.subs.length sc)).setCell ⟨b, 6, none⟩ (.slice ia n.items.length ic)) := t2.setCell (p := ⟨b, 6, none⟩) hkb _
          refine anyH_skip (i := 10) (by kernel_rfl) rfl none rfl (by kernel_rfl) (ex_store rfl rfl rfl (store_any (size_one24 _) (box_cell f3 rfl) (box_froz f3))) t1 ?_
          simp only [Act.put]
          refine anyH_take (i := 11) (v := .pointer (some ⟨b, 5, none⟩)) rfl (some 13) rfl (by kernel_rfl) (by kernel_rfl) (by kernel_rfl) (fun _ _ _ h => by cases h.1) (by kernel_rfl) (fun _ _ => ex_fldNd5 rfl rfl) t1 ?_
          simp only [Act.put, List.setIfInBounds_toArray, List.set_cons_zero, List.set_cons_succ]
          refine anyH_skip (i := 12) (by kernel_rfl) rfl none rfl (by kernel_rfl) (ex_store rfl rfl rfl (store_any (size_one25 _) (box_cell h1 rfl) (box_froz h1))) t2 ?_
          simp only [Act.put]
          refine anyH_take (i := 13) (v := .pointer (some ⟨b, 6, none⟩)) rfl (some 14) rfl (by kernel_rfl) (by kernel_rfl) (by kernel_rfl) (fun _ _ _ h => by cases h.1) (by kernel_rfl) (fun _ _ => ex_fldNd6 rfl rfl) t2 ?_
          simp only [Act.put, List.setIfInBounds_toArray, List.set_cons_zero, List.set_cons_succ]
          refine anyH_skip (i := 14) (by kernel_rfl) rfl none rfl (by kernel_rfl) (ex_store rfl rfl rfl (store_any (size_one26 _) (box_cell h2 rfl) (box_froz h2))) t3 ?_
          simp only [Act.put]
          exact wpAnyH_done (by kernel_rfl) ⟨rfl, ⟨aa, ac, sa, sc, ia, ic⟩, fill (fresh_end hm f3 hbne (SV3.block r hrV) hr0 (hkW.trans t3) ma ms mi la ls li) (by kernel_rfl)⟩ _
        case p7x4 =>
          refine op_val rfl (some 7) rfl (by kernel_rfl) (ex_load rfl rfl (load_anyS ((SV0.cell (p := ⟨b, 5, none⟩) hbV).trans c5))) ?_
          refine ⟨SV0.mono hkV, ?_⟩
          simp only [Act.put, List.setIfInBounds_toArray, List.set_cons_zero, List.set_cons_succ]
          refine anyH_one (i := 2) (by kernel_rfl) ?_
          refine op_call rfl (some 5) rfl (by kernel_rfl) #[.slice v.aa n.affs.length v.ac] rfl (by simp [Act.eval]) (fun _ _ => rfl) (copied_a v.aa v.ac n.affs V0 ((hm.ok.1.below (SV0.mono hkV)).raise (Nat.le_trans hkV SV0.size))) ?_
          rintro e V1 ⟨va, rfl, oa, b1⟩
          obtain ⟨aa, ac, rfl, ma_, la, _, ha_⟩ := own_a oa hm.ok.1.1
          have ma := And.intro ma_ (show ∀ a, aa = some a → a.block ≠ b ∧ a.block ≠ r ∧ wk ≤ a.block from fun a e => by have := (ha_ a e).1; have := SV0.size; omega)
          have SV1 : Below V0.heap.size V0 V1 := SV0.trans (b1.mono SV0.size)
          refine ⟨_, rfl, SV1.mono hkV, ?_⟩
          simp only [Act.put, List.setIfInBounds_toArray, List.set_cons_zero, List.set_cons_succ]
          refine anyH_take (i := 9) (v := .pointer (some ⟨b, 4, none⟩)) rfl (some 12) rfl (by kernel_rfl) (by kernel_rfl) (by kernel_rfl) (fun _ _ _ h => by cases h.1) (by kernel_rfl) (fun _ _ => ex_fldNd4 rfl rfl) (SV1.mono hkV) ?_
          simp only [Act.put, List.setIfInBounds_toArray, List.set_cons_zero, List.set_cons_succ]
          refine anyH_one (i := 5) (by kernel_rfl) ?_
          refine op_call rfl (some 8) rfl (by kernel_rfl) #[.slice v.sa n.subs.length v.sc] rfl (by simp [Act.eval]) (fun _ _ => rfl) (copied_s v.sa v.sc n.subs V1 ((hm.ok.2.1.below (SV1.mono hkV)).raise (Nat.le_trans hkV SV1.size))) ?_
          rintro e V2 ⟨vs, rfl, os, b2⟩
          obtain ⟨sa, sc, rfl, ms_, ls, _, hs_⟩ := own_s os hm.ok.2.1.1
          have ms := And.intro ms_ (show ∀ a, sa = some a → a.block ≠ b ∧ a.block ≠ r ∧ wk ≤ a.block from fun a e => by have := (hs_ a e).1; have := SV1.size; omega)
          have SV2 : Below V0.heap.size V0 V2 := SV1.trans (b2.mono SV1.size)
          replace ma := And.intro ((ma.1.below b2).raise b2.size) ma.2
          refine ⟨_, rfl, SV2.mono hkV, ?_⟩
          simp only [Act.put, List.setIfInBounds_toArray, List.set_cons_zero, List.set_cons_succ]
          refine anyH_one (i := 8) (by kernel_rfl) ?_
          refine op_call rfl (some 11) rfl (by kernel_rfl) #[.slice v.ia n.items.length v.ic] rfl (by simp [Act.eval]) (fun _ _ => rfl) (copied_i v.ia v.ic n.items V2 ((hm.it.below (SV2.mono hkV)).raise (Nat.le_trans hkV SV2.size))) ?_
          rintro e V3 ⟨vi, rfl, oi, b3⟩
          obtain ⟨ia, ic, rfl, mi_, li, _, hi_⟩ := own_i oi hm.it.1
          have mi := And.intro mi_ (show ∀ a, ia = some a → a.block ≠ b ∧ a.block ≠ r ∧ wk ≤ a.block from fun a e => by have := (hi_ a e).1; have := SV2.size; omega)
          have SV3 : Below V0.heap.size V0 V3 := SV2.trans (b3.mono SV2.size)
          replace ma := And.intro ((ma.1.below b3).raise b3.size) ma.2
          replace ms := And.intro ((ms.1.below b3).raise b3.size) ms.2
          refine ⟨_, rfl, SV3.mono hkV, ?_⟩
          simp only [Act.put, List.setIfInBounds_toArray, List.set_cons_zero, List.set_cons_succ]
          have f3 := (SV3.block b hbV).trans f0
          have h1 := heap_setk (i := 4) (v := .slice aa n.affs.length ac) f3
          have h2 := heap_setk (i := 5) (v := .slice sa n.subs.length sc) h1
          have h3 := heap_setk (i := 6) (v := .slice ia n.items.length ic) h2
          have t0 : Below wk V0 V3 := SV3.mono hkV
          have t1 : Below wk V0 (V3.setCell ⟨b, 4, none⟩ (.slice aa n.affs.length ac)) := t0.setCell (p := ⟨b, 4, none⟩) hkb _
          have t2 : Below wk V0 ((V3.setCell ⟨b, 4, none⟩ (.slice aa n.affs.length ac)).setCell ⟨b, 5, none⟩ (.slice sa n.subs.length sc)) := t1.setCell (p := ⟨b, 5, none⟩) hkb _
          have t3 : Below wk V0 (((V3.setCell ⟨b, 4, none⟩ (.slice aa n.affs.length ac)).setCell ⟨b, 5, none⟩ (.slice sa n.subs.length sc)).setCell ⟨b, 6, none⟩ (.slice ia n.items.length ic)) := t2.setCell (p := ⟨b, 6, none⟩) hkb _
          refine anyH_skip (i := 10) (by kernel_rfl) rfl none rfl (by kernel_rfl) (ex_store rfl rfl rfl (store_any (size_one24 _) (box_cell f3 rfl) (box_froz f3))) t1 ?_
          simp only [Act.put]
          refine anyH_take (i := 11) (v := .pointer (some ⟨b, 5, none⟩)) rfl (some 13) rfl (by kernel_rfl) (by kernel_rfl) (by kernel_rfl) (fun _ _ _ h => by cases h.1) (by kernel_rfl) (fun _ _ => ex_fldNd5 rfl rfl) t1 ?_
          simp only [Act.put, List.setIfInBounds_toArray, List.set_cons_zero, List.set_cons_succ]
          refine anyH_skip (i := 12) (by kernel_rfl) rfl none rfl (by kernel_rfl) (ex_store rfl rfl rfl (store_any (size_one25 _) (box_cell h1 rfl) (box_froz h1))) t2 ?_
          simp only [Act.put]
          refine anyH_take (i := 13) (v := .pointer (some ⟨b, 6, none⟩)) rfl (some 14) rfl (by kernel_rfl) (by kernel_rfl) (by kernel_rfl) (fun _ _ _ h => by cases h.1) (by kernel_rfl) (fun _ _ => ex_fldNd6 rfl rfl) t2 ?_
          simp only [Act.put, List.setIfInBounds_toArray, List.set_cons_zero, List.set_cons_succ]
          refine anyH_skip (i := 14) (by kernel_rfl) rfl none rfl (by kernel_rfl) (ex_store rfl rfl rfl (store_any (size_one26 _) (box_cell h2 rfl) (box_froz h2))) t3 ?_
          simp only [Act.put]
          exact wpAnyH_done (by kernel_rfl) ⟨rfl, ⟨aa, ac, sa, sc, ia, ic⟩, fill (fresh_end hm f3 hbne (SV3.block r hrV) hr0 (hkW.trans t3) ma ms mi la ls li) (by kernel_rfl)⟩ _
    case p1x4 =>
      refine op_val rfl (some 7) rfl (by kernel_rfl) (ex_load rfl rfl (load_anyS ((SV0.cell (p := ⟨b, 5, none⟩) hbV).trans c5))) ?_
      refine ⟨SV0.mono hkV, ?_⟩
      simp only [Act.put, List.setIfInBounds_toArray, List.set_cons_zero, List.set_cons_succ]
      refine anyH_two (i := 1) (j := 7) (by kernel_rfl) ?p8x1 ?p8x7
      case p8x1 =>
        refine op_val rfl (some 4) rfl (by kernel_rfl) (ex_load rfl rfl (load_anyA ((SV0.cell (p := ⟨b, 4, none⟩) hbV).trans c4))) ?_
        refine ⟨SV0.mono hkV, ?_⟩
        simp only [Act.put, List.setIfInBounds_toArray, List.set_cons_zero, List.set_cons_succ]
        refine anyH_two (i := 2) (j := 7) (by kernel_rfl) ?p9x2 ?p9x7
        case p9x2 =>
          refine op_call rfl (some 5) rfl (by kernel_rfl) #[.slice v.aa n.affs.length v.ac] rfl (by simp [Act.eval]) (fun _ _ => rfl) (copied_a v.aa v.ac n.affs V0 ((hm.ok.1.below (SV0.mono hkV)).raise (Nat.le_trans hkV SV0.size))) ?_
          rintro e V1 ⟨va, rfl, oa, b1⟩
          obtain ⟨aa, ac, rfl, ma_, la, _, ha_⟩ := own_a oa hm.ok.1.1
          have ma := And.intro ma_ (show ∀ a, aa = some a → a.block ≠ b ∧ a.block ≠ r ∧ wk ≤ a.block from fun a e => by have := (ha_ a e).1; have := SV0.size; omega)
          have SV1 : Below V0.heap.size V0 V1 := SV0.trans (b1.mono SV0.size)
          refine ⟨_, rfl, SV1.mono hkV, ?_⟩
          simp only [Act.put, List.setIfInBounds_toArray, List.set_cons_zero, List.set_cons_succ]
          refine anyH_two (i := 5) (j := 7) (by kernel_rfl) ?p10x5 ?p10x7
          case p10x5 =>
            refine op_call rfl (some 8) rfl (by kernel_rfl) #[.slice v.sa n.subs.length v.sc] rfl (by simp [Act.eval]) (fun _ _ => rfl) (copied_s v.sa v.sc n.subs V1 ((hm.ok.2.1.below (SV1.mono hkV)).raise (Nat.le_trans hkV SV1.size))) ?_
            rintro e V2 ⟨vs, rfl, os, b2⟩
            obtain ⟨sa, sc, rfl, ms_, ls, _, hs_⟩ := own_s os hm.ok.2.1.1
            have ms := And.intro ms_ (show ∀ a, sa = some a → a.block ≠ b ∧ a.block ≠ r ∧ wk ≤ a.block from fun a e => by have := (hs_ a e).1; have := SV1.size; omega)
            have SV2 : Below V0.heap.size V0 V2 := SV1.trans (b2.mono SV1.size)
            replace ma := And.intro ((ma.1.below b2).raise b2.size) ma.2
            refine ⟨_, rfl, SV2.mono hkV, ?_⟩
            simp only [Act.put, List.setIfInBounds_toArray, List.set_cons_zero, List.set_cons_succ]
            refine anyH_one (i := 7) (by kernel_rfl) ?_
            refine op_val rfl (some 10) rfl (by kernel_rfl) (ex_load rfl rfl (load_anyI ((SV2.cell (p := ⟨b, 6, none⟩) hbV).trans c6))) ?_
            refine ⟨SV2.mono hkV, ?_⟩
            simp only [Act.put, List.setIfInBounds_toArray, List.set_cons_zero, List.set_cons_succ]
            refine anyH_take (i := 9) (v := .pointer (some ⟨b, 4, none⟩)) rfl (some 12) rfl (by kernel_rfl) (by kernel_rfl) (by kernel_rfl) (fun _ _ _ h => by cases h.1) (by kernel_rfl) (fun _ _ => ex_fldNd4 rfl rfl) (SV2.mono hkV) ?_
            simp only [Act.put, List.setIfInBounds_toArray, List.set_cons_zero, List.set_cons_succ]
            refine anyH_one (i := 8) (by kernel_rfl) ?_
            refine op_call rfl (some 11) rfl (by kernel_rfl) #[.slice v.ia n.items.length v.ic] rfl (by simp [Act.eval]) (fun _ _ => rfl) (copied_i v.ia v.ic n.items V2 ((hm.it.below (SV2.mono hkV)).raise (Nat.le_trans hkV SV2.size))) ?_
            rintro e V3 ⟨vi, rfl, oi, b3⟩
            obtain ⟨ia, ic, rfl, mi_, li, _, hi_⟩ := own_i oi hm.it.1
            have mi := And.intro mi_ (show ∀ a, ia = some a → a.block ≠ b ∧ a.block ≠ r ∧ wk ≤ a.block from fun a e => by have := (hi_ a e).1; have := SV2.size; omega)
            have SV3 : Below V0.heap.size V0 V3 := SV2.trans (b3.mono SV2.size)
            replace ma := And.intro ((ma.1.below b3).raise b3.size) ma.2
            replace ms := And.intro ((ms.1.below b3).raise b3.size) ms.2
            refine ⟨_, rfl, SV3.mono hkV, ?_⟩
            simp only [Act.put, List.setIfInBounds_toArray, List.set_cons_zero, List.set_cons_succ]
            have f3 := (SV3.block b hbV).trans f0
            have h1 := heap_setk (i := 4) (v := .slice aa n.affs.length ac) f3
            have h2 := heap_setk (i := 5) (v := .slice sa n.subs.length sc) h1
            have h3 := heap_setk (i := 6) (v := .slice ia n.items.length ic) h2
            have t0 : Below wk V0 V3 := SV3.mono hkV
            have t1 : Below wk V0 (V3.setCell ⟨b, 4, none⟩ (.slice aa n.affs.length ac)) := t0.setCell (p := ⟨b, 4, none⟩) hkb _
            have t2 : Below wk V0 ((V3.setCell ⟨b, 4, none⟩ (.slice aa n.affs.length ac)).setCell ⟨b, 5, none⟩ (.slice sa n.subs.length sc)) := t1.setCell (p := ⟨b, 5, none⟩) hkb _
            have t3 : Below wk V0 (((V3.setCell ⟨b, 4, none⟩ (.slice aa n.affs.length ac)).setCell ⟨b, 5, none⟩ (.slice sa n.subs.length sc)).setCell ⟨b, 6, none⟩ (.slice ia n.items.length ic)) := t2.setCell (p := ⟨b, 6, none⟩) hkb _
            refine anyH_skip (i := 10) (by kernel_rfl) rfl none rfl (by kernel_rfl) (ex_store rfl rfl rfl (store_any (size_one24 _) (box_cell f3 rfl) (box_froz f3))) t1 ?_
            simp only [Act.put]
            refine anyH_take (i := 11) (v := .pointer (some ⟨b, 5, none⟩)) rfl (some 13) rfl (by kernel_rfl) (by kernel_rfl) (by kernel_rfl) (fun _ _ _ h => by cases h.1) (by kernel_rfl) (fun _ _ => ex_fldNd5 rfl rfl) t1 ?_
            simp only [Act.put, List.setIfInBounds_toArray, List.set_cons_zero, List.set_cons_succ]
            refine anyH_skip (i := 12) (by kernel_rfl) rfl none rfl (by kernel_rfl) (ex_store rfl rfl rfl (store_any (size_one25 _) (box_cell h1 rfl) (box_froz h1))) t2 ?_
            simp only [Act.put]
            refine anyH_take (i := 13) (v := .pointer (some ⟨b, 6, none⟩)) rfl (some 14) rfl (by kernel_rfl) (by kernel_rfl) (by kernel_rfl) (fun _ _ _ h => by cases h.1) (by kernel_rfl) (fun _ _ => ex_fldNd6 rfl rfl) t2 ?_
            simp only [Act.put, List.setIfInBounds_toArray, List.set_cons_zero, List.set_cons_succ]
            refine anyH_skip (i := 14) (by kernel_rfl) rfl none rfl (by kernel_rfl) (ex_store rfl rfl rfl (store_any (size_one26 _) (box_cell h2 rfl) (box_froz h2))) t3 ?_
            simp only [Act.put]
            exact wpAnyH_done (by kernel_rfl) ⟨rfl, ⟨aa, ac, sa, sc, ia, ic⟩, fill (fresh_end hm f3 hbne (SV3.block r hrV) hr0 (hkW.trans t3) ma ms mi la ls li) (by kernel_rfl)⟩ _
          case p10x7 =>
            refine op_val rfl (some 10) rfl (by kernel_rfl) (ex_load rfl rfl (load_anyI ((SV1.cell (p := ⟨b, 6, none⟩) hbV).trans c6))) ?_
            refine ⟨SV1.mono hkV, ?_⟩
            simp only [Act.put, List.setIfInBounds_toArray, List.set_cons_zero, List.set_cons_succ]
            refine anyH_take (i := 9) (v := .pointer (some ⟨b, 4, none⟩)) rfl (some 12) rfl (by kernel_rfl) (by kernel_rfl) (by kernel_rfl) (fun _ _ _ h => by cases h.1) (by kernel_rfl) (fun _ _ => ex_fldNd4 rfl rfl) (SV1.mono hkV) ?_
            simp only [Act.put, List.setIfInBounds_toArray, List.set_cons_zero, List.set_cons_succ]
            refine anyH_one (i := 5) (by kernel_rfl) ?_
            refine op_call rfl (some 8) rfl (by kernel_rfl) #[.slice v.sa n.subs.length v.sc] rfl (by simp [Act.eval]) (fun _ _ => rfl) (copied_s v.sa v.sc n.subs V1 ((hm.ok.2.1.below (SV1.mono hkV)).raise (Nat.le_trans hkV SV1.size))) ?_
            rintro e V2 ⟨vs, rfl, os, b2⟩
            obtain ⟨sa, sc, rfl, ms_, ls, _, hs_⟩ := own_s os hm.ok.2.1.1
            have ms := And.intro ms_ (show ∀ a, sa = some a → a.block ≠ b ∧ a.block ≠ r ∧ wk ≤ a.block from fun a e => by have := (hs_ a e).1; have := SV1.size; omega)
            have SV2 : Below V0.heap.size V0 V2 := SV1.trans (b2.mono SV1.size)
            replace ma := And.intro ((ma.1.below b2).raise b2.size) ma.2
            refine ⟨_, rfl, SV2.mono hkV, ?_⟩
            simp only [Act.put, List.setIfInBounds_toArray, List.set_cons_zero, List.set_cons_succ]
            refine anyH_one (i := 8) (by kernel_rfl) ?_
            refine op_call rfl (some 11) rfl (by kernel_rfl) #[.slice v.ia n.items.length v.ic] rfl (by simp [Act.eval]) (fun _ _ => rfl) (copied_i v.ia v.ic n.items V2 ((hm.it.below (SV2.mono hkV)).raise (Nat.le_trans hkV SV2.size))) ?_
            rintro e V3 ⟨vi, rfl, oi, b3⟩
            obtain ⟨ia, ic, rfl, mi_, li, _, hi_⟩ := own_i oi hm.it.1
            have mi := And.intro mi_ (show ∀ a, ia = some a → a.block ≠ b ∧ a.block ≠ r ∧ wk ≤ a.block from fun a e => by have := (hi_ a e).1; have := SV2.size; omega)
            have SV3 : Below V0.heap.size V0 V3 := SV2.trans (b3.mono SV2.size)
            replace ma := And.intro ((ma.1.below b3).raise b3.size) ma.2
            replace ms := And.intro ((ms.1.below b3).raise b3.size) ms.2
            refine ⟨_, rfl, SV3.mono hkV, ?_⟩
            simp only [Act.put, List.setIfInBounds_toArray, List.set_cons_zero, List.set_cons_succ]
            have f3 := (SV3.block b hbV).trans f0
            have h1 := heap_setk (i := 4) (v := .slice aa n.affs.length ac) f3
            have h2 := heap_setk (i := 5) (v := .slice sa n.subs.length sc) h1
            have h3 := heap_setk (i := 6) (v := .slice ia n.items.length ic) h2
            have t0 : Below wk V0 V3 := SV3.mono hkV
            have t1 : Below wk V0 (V3.setCell ⟨b, 4, none⟩ (.slice aa n.affs.length ac)) := t0.setCell (p := ⟨b, 4, none⟩) hkb _
            have t2 : Below wk V0 ((V3.setCell ⟨b, 4, none⟩ (.slice aa n.affs.length ac)).setCell ⟨b, 5, none⟩ (.slice sa n.subs.length sc)) := t1.setCell (p := ⟨b, 5, none⟩) hkb _
            have t3 : Below wk V0 (((V3.setCell ⟨b, 4, none⟩ (.slice aa n.affs.length ac)).setCell ⟨b, 5, none⟩ (.slice sa n.subs.length sc)).setCell ⟨b, 6, none⟩ (.slice ia n.items.length ic)) := t2.setCell (p := ⟨b, 6, none⟩) hkb _
            refine anyH_skip (i := 10) (by kernel_rfl) rfl none rfl (by kernel_rfl) (ex_store rfl rfl rfl (store_any (size_one24 _) (box_cell f3 rfl) (box_froz f3))) t1 ?_
            simp only [Act.put]
            refine anyH_take (i := 11) (v := .pointer (some ⟨b, 5, none⟩)) rfl (some 13) rfl (by kernel_rfl) (by kernel_rfl) (by kernel_rfl) (fun _ _ _ h => by cases h.1) (by kernel_rfl) (fun _ _ => ex_fldNd5 rfl rfl) t1 ?_
            simp only [Act.put, List.setIfInBounds_toArray, List.set_cons_zero, List.set_cons_succ]
            refine anyH_skip (i := 12) (by kernel_rfl) rfl none rfl (by kernel_rfl) (ex_store rfl rfl rfl (store_any (size_one25 _) (box_cell h1 rfl) (box_froz h1))) t2 ?_
            simp only [Act.put]
            refine anyH_take (i := 13) (v := .pointer (some ⟨b, 6, none⟩)) rfl (some 14) rfl (by kernel_rfl) (by kernel_rfl) (by kernel_rfl) (fun _ _ _ h => by cases h.1) (by kernel_rfl) (fun _ _ => ex_fldNd6 rfl rfl) t2 ?_
            simp only [Act.put, List.setIfInBounds_toArray, List.set_cons_zero, List.set_cons_succ]
            refine anyH_skip (i := 14) (by kernel_rfl) rfl none rfl (by kernel_rfl) (ex_store rfl rfl rfl (store_any (size_one26 _) (box_cell h2 rfl) (box_froz h2))) t3 ?_
            simp only [Act.put]
            exact wpAnyH_done (by kernel_rfl) ⟨rfl, ⟨aa, ac, sa, sc, ia, ic⟩, fill (fresh_end hm f3 hbne (SV3.block r hrV) hr0 (hkW.trans t3) ma ms mi la ls li) (by kernel_rfl)⟩ _
        case p9x7 =>
          refine op_val rfl (some 10) rfl (by kernel_rfl) (ex_load rfl rfl (load_anyI ((SV0.cell (p := ⟨b, 6, none⟩) hbV).trans c6))) ?_
          refine ⟨SV0.mono hkV, ?_⟩
          simp only [Act.put, List.setIfInBounds_toArray, List.set_cons_zero, List.set_cons_succ]
          refine anyH_one (i := 2) (by kernel_rfl) ?_
          refine op_call rfl (some 5) rfl (by kernel_rfl) #[.slice v.aa n.affs.length v.ac] rfl (by simp [Act.eval]) (fun _ _ => rfl) (copied_a v.aa v.ac n.affs V0 ((hm.ok.1.below (SV0.mono hkV)).raise (Nat.le_trans hkV SV0.size))) ?_
          rintro e V1 ⟨va, rfl, oa, b1⟩
          obtain ⟨aa, ac, rfl, ma_, la, _, ha_⟩ := own_a oa hm.ok.1.1
          have ma := And.intro ma_ (show ∀ a, aa = some a → a.block ≠ b ∧ a.block ≠ r ∧ wk ≤ a.block from fun a e => by have := (ha_ a e).1; have := SV0.size; omega)
          have SV1 : Below V0.heap.size V0 V1 := SV0.trans (b1.mono SV0.size)
          refine ⟨_, rfl, SV1.mono hkV, ?_⟩
          simp only [Act.put, List.setIfInBounds_toArray, List.set_cons_zero, List.set_cons_succ]
          refine anyH_take (i := 9) (v := .pointer (some ⟨b, 4, none⟩)) rfl (some 12) rfl (by kernel_rfl) (by kernel_rfl) (by kernel_rfl) (fun _ _ _ h => by cases h.1) (by kernel_rfl) (fun _ _ => ex_fldNd4 rfl rfl) (SV1.mono hkV) ?_
          simp only [Act.put, List.setIfInBounds_toArray, List.set_cons_zero, List.set_cons_succ]
          refine anyH_one (i := 5) (by kernel_rfl) ?_
          refine op_call rfl (some 8) rfl (by kernel_rfl) #[.slice v.sa n.subs.length v.sc] rfl (by simp [Act.eval]) (fun _ _ => rfl) (copied_s v.sa v.sc n.subs V1 ((hm.ok.2.1.below (SV1.mono hkV)).raise (Nat.le_trans hkV SV1.size))) ?_
          rintro e V2 ⟨vs, rfl, os, b2⟩
          obtain ⟨sa, sc, rfl, ms_, ls, _, hs_⟩ := own_s os hm.ok.2.1.1
          have ms := And.intro ms_ (show ∀ a, sa = some a → a.block ≠ b ∧ a.block ≠ r ∧ wk ≤ a.block from fun a e => by have := (hs_ a e).1; have := SV1.size; omega)
          have SV2 : Below V0.heap.size V0 V2 := SV1.trans (b2.mono SV1.size)
          replace ma := And.intro ((ma.1.below b2).raise b2.size) ma.2
          refine ⟨_, rfl, SV2.mono hkV, ?_⟩
          simp only [Act.put, List.setIfInBounds_toArray, List.set_cons_zero, List.set_cons_succ]
          refine anyH_one (i := 8) (by kernel_rfl) ?_
          refine op_call rfl (some 11) rfl (by kernel_rfl) #[.slice v.ia n.items.length v.ic] rfl (by simp [Act.eval]) (fun _ _ => rfl) (copied_i v.ia v.ic n.items V2 ((hm.it.below (SV2.mono hkV)).raise (Nat.le_trans hkV SV2.size))) ?_
          rintro e V3 ⟨vi, rfl, oi, b3⟩
          obtain ⟨ia, ic, rfl, mi_, li, _, hi_⟩ := own_i oi hm.it.1
          have mi := And.intro mi_ (show ∀ a, ia = some a → a.block ≠ b ∧ a.block ≠ r ∧ wk ≤ a.block from fun a e => by have := (hi_ a e).1; have := SV2.size; omega)
          have SV3 : Below V0.heap.size V0 V3 := SV2.trans (b3.mono SV2.size)
          replace ma := And.intro ((ma.1.below b3).raise b3.size) ma.2
          replace ms := And.intro ((ms.1.below b3).raise b3.size) ms.2
          refine ⟨_, rfl, SV3.mono hkV, ?_⟩
          simp only [Act.put, List.setIfInBounds_toArray, List.set_cons_zero, List.set_cons_succ]
          have f3 := (SV3.block b hbV).trans f0
          have h1 := heap_setk (i := 4) (v := .slice aa n.affs.length ac) f3
          have h2 := heap_setk (i := 5) (v := .slice sa n.subs.length sc) h1
          have h3 := heap_setk (i := 6) (v := .slice ia n.items.length ic) h2
          have t0 : Below wk V0 V3 := SV3.mono hkV
          have t1 : Below wk V0 (V3.setCell ⟨b, 4, none⟩ (.slice aa n.affs.length ac)) := t0.setCell (p := ⟨b, 4, none⟩) hkb _
          have t2 : Below wk V0 ((V3.setCell ⟨b, 4, none⟩ (.slice aa n.affs.length ac)).setCell ⟨b, 5, none⟩ (.slice sa n.subs.length sc)) := t1.setCell (p := ⟨b, 5, none⟩) hkb _
          have t3 : Below wk V0 (((V3.setCell ⟨b, 4, none⟩ (.slice aa n.affs.length ac)).setCell ⟨b, 5, none⟩ (.slice sa n.subs.length sc)).setCell ⟨b, 6, none⟩ (.slice ia n.items.length ic)) := t2.setCell (p := ⟨b, 6, none⟩) hkb _
          refine anyH_skip (i := 10) (by kernel_rfl) rfl none rfl (by kernel_rfl) (ex_store rfl rfl rfl (store_any (size_one24 _) (box_cell f3 rfl) (box_froz f3))) t1 ?_
          simp only [Act.put]
          refine anyH_take (i := 11) (v := .pointer (some ⟨b, 5, none⟩)) rfl (some 13) rfl (by kernel_rfl) (by kernel_rfl) (by kernel_rfl) (fun _ _ _ h => by cases h.1) (by kernel_rfl) (fun _ _ => ex_fldNd5 rfl rfl) t1 ?_
          simp only [Act.put, List.setIfInBounds_toArray, List.set_cons_zero, List.set_cons_succ]
          refine anyH_skip (i := 12) (by kernel_rfl) rfl none rfl (by kernel_rfl) (ex_store rfl rfl rfl (store_any (size_one25 _) (box_cell h1 rfl) (box_froz h1))) t2 ?_
          simp only [Act.put]
          refine anyH_take (i := 13) (v := .pointer (some ⟨b, 6, none⟩)) rfl (some 14) rfl (by kernel_rfl) (by kernel_rfl) (by kernel_rfl) (fun _ _ _ h => by cases h.1) (by kernel_rfl) (fun _ _ => ex_fldNd6 rfl rfl) t2 ?_
          simp only [Act.put, List.setIfInBounds_toArray, List.set_cons_zero, List.set_cons_succ]
          refine anyH_skip (i := 14) (by kernel_rfl) rfl none rfl (by kernel_rfl) (ex_store rfl rfl rfl (store_any (size_one26 _) (box_cell h2 rfl) (box_froz h2))) t3 ?_
          simp only [Act.put]
          exact wpAnyH_done (by kernel_rfl) ⟨rfl, ⟨aa, ac, sa, sc, ia, ic⟩, fill (fresh_end hm f3 hbne (SV3.block r hrV) hr0 (hkW.trans t3) ma ms mi la ls li) (by kernel_rfl)⟩ _
      case p8x7 =>
        refine op_val rfl (some 10) rfl (by kernel_rfl) (ex_load rfl rfl (load_anyI ((SV0.cell (p := ⟨b, 6, none⟩) hbV).trans c6))) ?_
        refine ⟨SV0.mono hkV, ?_⟩
        simp only [Act.put, List.setIfInBounds_toArray, List.set_cons_zero, List.set_cons_succ]
        refine anyH_one (i := 1) (by kernel_rfl) ?_
        refine op_val rfl (some 4) rfl (by kernel_rfl) (ex_load rfl rfl (load_anyA ((SV0.cell (p := ⟨b, 4, none⟩) hbV).trans c4))) ?_
        refine ⟨SV0.mono hkV, ?_⟩
        simp only [Act.put, List.setIfInBounds_toArray, List.set_cons_zero, List.set_cons_succ]
        refine anyH_one (i := 2) (by kernel_rfl) ?_
        refine op_call rfl (some 5) rfl (by kernel_rfl) #[.slice v.aa n.affs.length v.ac] rfl (by simp [Act.eval]) (fun _ _ => rfl) (copied_a v.aa v.ac n.affs V0 ((hm.ok.1.below (SV0.mono hkV)).raise (Nat.le_trans hkV SV0.size))) ?_
        rintro e V1 ⟨va, rfl, oa, b1⟩
        obtain ⟨aa, ac, rfl, ma_, la, _, ha_⟩ := own_a oa hm.ok.1.1
        have ma := And.intro ma_ (show ∀ a, aa = some a → a.block ≠ b ∧ a.block ≠ r ∧ wk ≤ a.block from fun a e => by have := (ha_ a e).1; have := SV0.size; omega)
        have SV1 : Below V0.heap.size V0 V1 := SV0.trans (b1.mono SV0.size)
        refine ⟨_, rfl, SV1.mono hkV, ?_⟩
        simp only [Act.put, List.setIfInBounds_toArray, List.set_cons_zero, List.set_cons_succ]
        refine anyH_take (i := 9) (v := .pointer (some ⟨b, 4, none⟩)) rfl (some 12) rfl (by kernel_rfl) (by kernel_rfl) (by kernel_rfl) (fun _ _ _ h => by cases h.1) (by kernel_rfl) (fun _ _ => ex_fldNd4 rfl rfl) (SV1.mono hkV) ?_
        simp only [Act.put, List.setIfInBounds_toArray, List.set_cons_zero, List.set_cons_succ]
        refine anyH_one (i := 5) (by kernel_rfl) ?_
        refine op_call rfl (some 8) rfl (by kernel_rfl) #[.slice v.sa n.subs.length v.sc] rfl (by simp [Act.eval]) (fun _ _ => rfl) (copied_s v.sa v.sc n.subs V1 ((hm.ok.2.1.below (SV1.mono hkV)).raise (Nat.le_trans hkV SV1.size))) ?_
        rintro e V2 ⟨vs, rfl, os, b2⟩
        obtain ⟨sa, sc, rfl, ms_, ls, _, hs_⟩ := own_s os hm.ok.2.1.1
        have ms := And.intro ms_ (show ∀ a, sa = some a → a.block ≠ b ∧ a.block ≠ r ∧ wk ≤ a.block from fun a e => by have := (hs_ a e).1; have := SV1.size; omega)
        have SV2 : Below V0.heap.size V0 V2 := SV1.trans (b2.mono SV1.size)
        replace ma := And.intro ((ma.1.below b2).raise b2.size) ma.2
        refine ⟨_, rfl, SV2.mono hkV, ?_⟩
        simp only [Act.put, List.setIfInBounds_toArray, List.set_cons_zero, List.set_cons_succ]
        refine anyH_one (i := 8) (by kernel_rfl) ?_
        refine op_call rfl (some 11) rfl (by kernel_rfl) #[.slice v.ia n.items.length v.ic] rfl (by simp [Act.eval]) (fun _ _ => rfl) (copied_i v.ia v.ic n.items V2 ((hm.it.below (SV2.mono hkV)).raise (Nat.le_trans hkV SV2.size))) ?_
        rintro e V3 ⟨vi, rfl, oi, b3⟩
        obtain ⟨ia, ic, rfl, mi_, li, _, hi_⟩ := own_i oi hm.it.1
        have mi := And.intro mi_ (show ∀ a, ia = some a → a.block ≠ b ∧ a.block ≠ r ∧ wk ≤ a.block from fun a e => by have := (hi_ a e).1; have := SV2.size; omega)
        have SV3 : Below V0.heap.size V0 V3 := SV2.trans (b3.mono SV2.size)
        replace ma := And.intro ((ma.1.below b3).raise b3.size) ma.2
        replace ms := And.intro ((ms.1.below b3).raise b3.size) ms.2
        refine ⟨_, rfl, SV3.mono hkV, ?_⟩
        simp only [Act.put, List.setIfInBounds_toArray, List.set_cons_zero, List.set_cons_succ]
        have f3 := (SV3.block b hbV).trans f0
        have h1 := heap_setk (i := 4) (v := .slice aa n.affs.length ac) f3
        have h2 := heap_setk (i := 5) (v := .slice sa n.subs.length sc) h1
        have h3 := heap_setk (i := 6) (v := .slice ia n.items.length ic) h2
        have t0 : Below wk V0 V3 := SV3.mono hkV
        have t1 : Below wk V0 (V3.setCell ⟨b, 4, none⟩ (.slice aa n.affs.length ac)) := t0.setCell (p := ⟨b, 4, none⟩) hkb _
        have t2 : Below wk V0 ((V3.setCell ⟨b, 4, none⟩ (.slice aa n.affs.length ac)).setCell ⟨b, 5, none⟩ (.slice sa n.subs.length sc)) := t1.setCell (p := ⟨b, 5, none⟩) hkb _
        have t3 : Below wk V0 (((V3.setCell ⟨b, 4, none⟩ (.slice aa n.affs.length ac)).setCell ⟨b, 5, none⟩ (.slice sa n.subs.length sc)).setCell ⟨b, 6, none⟩ (.slice ia n.items.length ic)) := t2.setCell (p := ⟨b, 6, none⟩) hkb _
        refine anyH_skip (i := 10) (by kernel_rfl) rfl none rfl (by kernel_rfl) (ex_store rfl rfl rfl (store_any (size_one24 _) (box_cell f3 rfl) (box_froz f3))) t1 ?_
        simp only [Act.put]
        refine anyH_take (i := 11) (v := .pointer (some ⟨b, 5, none⟩)) rfl (some 13) rfl (by kernel_rfl) (by kernel_rfl) (by kernel_rfl) (fun _ _ _ h => by cases h.1) (by kernel_rfl) (fun _ _ => ex_fldNd5 rfl rfl) t1 ?_
        simp only [Act.put, List.setIfInBounds_toArray, List.set_cons_zero, List.set_cons_succ]
        refine anyH_skip (i := 12) (by kernel_rfl) rfl none rfl (by kernel_rfl) (ex_store rfl rfl rfl (store_any (size_one25 _) (box_cell h1 rfl) (box_froz h1))) t2 ?_
        simp only [Act.put]
        refine anyH_take (i := 13) (v := .pointer (some ⟨b, 6, none⟩)) rfl (some 14) rfl (by kernel_rfl) (by kernel_rfl) (by kernel_rfl) (fun _ _ _ h => by cases h.1) (by kernel_rfl) (fun _ _ => ex_fldNd6 rfl rfl) t2 ?_
        simp only [Act.put, List.setIfInBounds_toArray, List.set_cons_zero, List.set_cons_succ]
        refine anyH_skip (i := 14) (by kernel_rfl) rfl none rfl (by kernel_rfl) (ex_store rfl rfl rfl (store_any (size_one26 _) (box_cell h2 rfl) (box_froz h2))) t3 ?_
        simp only [Act.put]
        exact wpAnyH_done (by kernel_rfl) ⟨rfl, ⟨aa, ac, sa, sc, ia, ic⟩, fill (fresh_end hm f3 hbne (SV3.block r hrV) hr0 (hkW.trans t3) ma ms mi la ls li) (by kernel_rfl)⟩ _
    case p1x7 =>
      refine op_val rfl (some 10) rfl (by kernel_rfl) (ex_load rfl rfl (load_anyI ((SV0.cell (p := ⟨b, 6, none⟩) hbV).trans c6))) ?_
      refine ⟨SV0.mono hkV, ?_⟩
      simp only [Act.put, List.setIfInBounds_toArray, List.set_cons_zero, List.set_cons_succ]
      refine anyH_two (i := 1) (j := 4) (by kernel_rfl) ?p11x1 ?p11x4
      case p11x1 =>
        refine op_val rfl (some 4) rfl (by kernel_rfl) (ex_load rfl rfl (load_anyA ((SV0.cell (p := ⟨b, 4, none⟩) hbV).trans c4))) ?_
        refine ⟨SV0.mono hkV, ?_⟩
        simp only [Act.put, List.setIfInBounds_toArray, List.set_cons_zero, List.set_cons_succ]
        refine anyH_two (i := 2) (j := 4) (by kernel_rfl) ?p12x2 ?p12x4
        case p12x2 =>
          refine op_call rfl (some 5) rfl (by kernel_rfl) #[.slice v.aa n.affs.length v.ac] rfl (by simp [Act.eval]) (fun _ _ => rfl) (copied_a v.aa v.ac n.affs V0 ((hm.ok.1.below (SV0.mono hkV)).raise (Nat.le_trans hkV SV0.size))) ?_
          rintro e V1 ⟨va, rfl, oa, b1⟩
          obtain ⟨aa, ac, rfl, ma_, la, _, ha_⟩ := own_a oa hm.ok.1.1
          have ma := And.intro ma_ (show ∀ a, aa = some a → a.block ≠ b ∧ a.block ≠ r ∧ wk ≤ a.block from fun a e => by have := (ha_ a e).1; have := SV0.size; omega)
          have SV1 : Below V0.heap.size V0 V1 := SV0.trans (b1.mono SV0.size)
          refine ⟨_, rfl, SV1.mono hkV, ?_⟩
          simp only [Act.put, List.setIfInBounds_toArray, List.set_cons_zero, List.set_cons_succ]
          refine anyH_one (i := 4) (by kernel_rfl) ?_
          refine op_val rfl (some 7) rfl (by kernel_rfl) (ex_load rfl rfl (load_anyS ((SV1.cell (p := ⟨b, 5, none⟩) hbV).trans c5))) ?_
          refine ⟨SV1.mono hkV, ?_⟩
          simp only [Act.put, List.setIfInBounds_toArray, List.set_cons_zero, List.set_cons_succ]
          refine anyH_take (i := 9) (v := .pointer (some ⟨b, 4, none⟩)) rfl (some 12) rfl (by kernel_rfl) (by kernel_rfl) (by kernel_rfl) (fun _ _ _ h => by cases h.1) (by kernel_rfl) (fun _ _ => ex_fldNd4 rfl rfl) (SV1.mono hkV) ?_
          simp only [Act.put, List.setIfInBounds_toArray, List.set_cons_zero, List.set_cons_succ]
          refine anyH_one (i := 5) (by kernel_rfl) ?_
          refine op_call rfl (some 8) rfl (by kernel_rfl) #[.slice v.sa n.subs.length v.sc] rfl (by simp [Act.eval]) (fun _ _ => rfl) (copied_s v.sa v.sc n.subs V1 ((hm.ok.2.1.below (SV1.mono hkV)).raise (Nat.le_trans hkV SV1.size))) ?_
          rintro e V2 ⟨vs, rfl, os, b2⟩
          obtain ⟨sa, sc, rfl, ms_, ls, _, hs_⟩ := own_s os hm.ok.2.1.1
          have ms := And.intro ms_ (show ∀ a, sa = some a → a.block ≠ b ∧ a.block ≠ r ∧ wk ≤ a.block from fun a e => by have := (hs_ a e).1; have := SV1.size; omega)
          have SV2 : Below V0.heap.size V0 V2 := SV1.trans (b2.mono SV1.size)
          replace ma := And.intro ((ma.1.below b2).raise b2.size) ma.2
          refine ⟨_, rfl, SV2.mono hkV, ?_⟩
          simp only [Act.put, List.setIfInBounds_toArray, List.set_cons_zero, List.set_cons_succ]
          refine anyH_one (i := 8) (by kernel_rfl) ?_
          refine op_call rfl (some 11) rfl (by kernel_rfl) #[.slice v.ia n.items.length v.ic] rfl (by simp [Act.eval]) (fun _ _ => rfl) (copied_i v.ia v.ic n.items V2 ((hm.it.below (SV2.mono hkV)).raise (Nat.le_trans hkV SV2.size))) ?_
          rintro e V3 ⟨vi, rfl, oi, b3⟩
          obtain ⟨ia, ic, rfl, mi_, li, _, hi_⟩ := own_i oi hm.it.1
          have mi := And.intro mi_ (show ∀ a, ia = some a → a.block ≠ b ∧ a.block ≠ r ∧ wk ≤ a.block from fun a e => by have := (hi_ a e).1; have := SV2.size; omega)
          have SV3 : Below V0.heap.size V0 V3 := SV2.trans (b3.mono SV2.size)
          replace ma := And.intro ((ma.1.below b3).raise b3.size) ma.2
          replace ms := And.intro ((ms.1.below b3).raise b3.size) ms.2
          refine ⟨_, rfl, SV3.mono hkV, ?_⟩
          simp only [Act.put, List.setIfInBounds_toArray, List.set_cons_zero, List.set_cons_succ]
          have f3 := (SV3.block b hbV).trans f0
          have h1 := heap_setk (i := 4) (v := .slice aa n.affs.length ac) f3
          have h2 := heap_setk (i := 5) (v := .slice sa n.subs.length sc) h1
          have h3 := heap_setk (i := 6) (v := .slice ia n.items.length ic) h2
          have t0 : Below wk V0 V3 := SV3.mono hkV
          have t1 : Below wk V0 (V3.setCell ⟨b, 4, none⟩ (.slice aa n.affs.length ac)) := t0.setCell (p := ⟨b, 4, none⟩) hkb _
          have t2 : Below wk V0 ((V3.setCell ⟨b, 4, none⟩ (.slice aa n.affs.length ac)).setCell ⟨b, 5, none⟩ (.slice sa n.subs.length sc)) := t1.setCell (p := ⟨b, 5, none⟩) hkb _
          have t3 : Below wk V0 (((V3.setCell ⟨b, 4, none⟩ (.slice aa n.affs.length ac)).setCell ⟨b, 5, none⟩ (.slice sa n.subs.length sc)).setCell ⟨b, 6, none⟩ (.slice ia n.items.length ic)) := t2.setCell (p := ⟨b, 6, none⟩) hkb _
          refine anyH_skip (i := 10) (by kernel_rfl) rfl none rfl (by kernel_rfl) (ex_store rfl rfl rfl (store_any (size_one24 _) (box_cell f3 rfl) (box_froz f3))) t1 ?_
          simp only [Act.put]
          refine anyH_take (i := 11) (v := .pointer (some ⟨b, 5, none⟩)) rfl (some 13) rfl (by kernel_rfl) (by kernel_rfl) (by kernel_rfl) (fun _ _ _ h => by cases h.1) (by kernel_rfl) (fun _ _ => ex_fldNd5 rfl rfl) t1 ?_
          simp only [Act.put, List.setIfInBounds_toArray, List.set_cons_zero, List.set_cons_succ]
          refine anyH_skip (i := 12) (by kernel_rfl) rfl none rfl (by kernel_rfl) (ex_store rfl rfl rfl (store_any (size_one25 _) (box_cell h1 rfl) (box_froz h1))) t2 ?_
          simp only [Act.put]
          refine anyH_take (i := 13) (v := .pointer (some ⟨b, 6, none⟩)) rfl (some 14) rfl (by kernel_rfl) (by kernel_rfl) (by kernel_rfl) (fun _ _ _ h => by cases h.1) (by kernel_rfl) (fun _ _ => ex_fldNd6 rfl rfl) t2 ?_
          simp only [Act.put, List.setIfInBounds_toArray, List.set_cons_zero, List.set_cons_succ]
          refine anyH_skip (i := 14) (by kernel_rfl) rfl none rfl (by kernel_rfl) (ex_store rfl rfl rfl (store_any (size_one26 _) (box_cell h2 rfl) (box_froz h2))) t3 ?_
          simp only [Act.put]
          exact wpAnyH_done (by kernel_rfl) ⟨rfl, ⟨aa, ac, sa, sc, ia, ic⟩, fill (fresh_end hm f3 hbne (SV3.block r hrV) hr0 (hkW.trans t3) ma ms mi la ls li) (by kernel_rfl)⟩ _
        case p12x4 =>
          refine op_val rfl (some 7) rfl (by kernel_rfl) (ex_load rfl rfl (load_anyS ((SV0.cell (p := ⟨b, 5, none⟩) hbV).trans c5))) ?_
          refine ⟨SV0.mono hkV, ?_⟩
          simp only [Act.put, List.setIfInBounds_toArray, List.set_cons_zero, List.set_cons_succ]
          refine anyH_one (i := 2) (by kernel_rfl) ?_
          refine op_call rfl (some 5) rfl (by kernel_rfl) #[.slice v.aa n.affs.length v.ac] rfl (by simp [Act.eval]) (fun _ _ => rfl) (copied_a v.aa v.ac n.affs V0 ((hm.ok.1.below (SV0.mono hkV)).raise (Nat.le_trans hkV SV0.size))) ?_
          rintro e V1 ⟨va, rfl, oa, b1⟩
          obtain ⟨aa, ac, rfl, ma_, la, _, ha_⟩ := own_a oa hm.ok.1.1
          have ma := And.intro ma_ (show ∀ a, aa = some a → a.block ≠ b ∧ a.block ≠ r ∧ wk ≤ a.block from fun a e => by have := (ha_ a e).1; have := SV0.size; omega)
          have SV1 : Below V0.heap.size V0 V1 := SV0.trans (b1.mono SV0.size)
          refine ⟨_, rfl, SV1.mono hkV, ?_⟩
          simp only [Act.put, List.setIfInBounds_toArray, List.set_cons_zero, List.set_cons_succ]
          refine anyH_take (i := 9) (v := .pointer (some ⟨b, 4, none⟩)) rfl (some 12) rfl (by kernel_rfl) (by kernel_rfl) (by kernel_rfl) (fun _ _ _ h => by cases h.1) (by kernel_rfl) (fun _ _ => ex_fldNd4 rfl rfl) (SV1.mono hkV) ?_
          simp only [Act.put, List.setIfInBounds_toArray, List.set_cons_zero, List.set_cons_succ]
          refine anyH_one (i := 5) (by kernel_rfl) ?_
          refine op_call rfl (some 8) rfl (by kernel_rfl) #[.slice v.sa n.subs.length v.sc] rfl (by simp [Act.eval]) (fun _ _ => rfl) (copied_s v.sa v.sc n.subs V1 ((hm.ok.2.1.below (SV1.mono hkV)).raise (Nat.le_trans hkV SV1.size))) ?_
          rintro e V2 ⟨vs, rfl, os, b2⟩
          obtain ⟨sa, sc, rfl, ms_, ls, _, hs_⟩ := own_s os hm.ok.2.1.1
          have ms := And.intro ms_ (show ∀ a, sa = some a → a.block ≠ b ∧ a.block ≠ r ∧ wk ≤ a.block from fun a e => by have := (hs_ a e).1; have := SV1.size; omega)
          have SV2 : Below V0.heap.size V0 V2 := SV1.trans (b2.mono SV1.size)
          replace ma := And.intro ((ma.1.below b2).raise b2.size) ma.2
          refine ⟨_, rfl, SV2.mono hkV, ?_⟩
          simp only [Act.put, List.setIfInBounds_toArray, List.set_cons_zero, List.set_cons_succ]
          refine anyH_one (i := 8) (by kernel_rfl) ?_
          refine op_call rfl (some 11) rfl (by kernel_rfl) #[.slice v.ia n.items.length v.ic] rfl (by simp [Act.eval]) (fun _ _ => rfl) (copied_i v.ia v.ic n.items V2 ((hm.it.below (SV2.mono hkV)).raise (Nat.le_trans hkV SV2.size))) ?_
          rintro e V3 ⟨vi, rfl, oi, b3⟩
          obtain ⟨ia, ic, rfl, mi_, li, _, hi_⟩ := own_i oi hm.it.1
          have mi := And.intro mi_ (show ∀ a, ia = some a → a.block ≠ b ∧ a.block ≠ r ∧ wk ≤ a.block from fun a e => by have := (hi_ a e).1; have := SV2.size; omega)
          have SV3 : Below V0.heap.size V0 V3 := SV2.trans (b3.mono SV2.size)
          replace ma := And.intro ((ma.1.below b3).raise b3.size) ma.2
          replace ms := And.intro ((ms.1.below b3).raise b3.size) ms.2
          refine ⟨_, rfl, SV3.mono hkV, ?_⟩
          simp only [Act.put, List.setIfInBounds_toArray, List.set_cons_zero, List.set_cons_succ]
          have f3 := (SV3.block b hbV).trans f0
          have h1 := heap_setk (i := 4) (v := .slice aa n.affs.length ac) f3
          have h2 := heap_setk (i := 5) (v := .slice sa n.subs.length sc) h1
          have h3 := heap_setk (i := 6) (v := .slice ia n.items.length ic) h2
          have t0 : Below wk V0 V3 := SV3.mono hkV
          have t1 : Below wk V0 (V3.setCell ⟨b, 4, none⟩ (.slice aa n.affs.length ac)) := t0.setCell (p := ⟨b, 4, none⟩) hkb _
          have t2 : Below wk V0 ((V3.setCell ⟨b, 4, none⟩ (.slice aa n.affs.length ac)).setCell ⟨b, 5, none⟩ (.slice sa n.subs.length sc)) := t1.setCell (p := ⟨b, 5, none⟩) hkb _
          have t3 : Below wk V0 (((V3.setCell ⟨b, 4, none⟩ (.slice aa n.affs.length ac)).setCell ⟨b, 5, none⟩ (.slice sa n.subs.length sc)).setCell ⟨b, 6, none⟩ (.slice ia n.items.length ic)) := t2.setCell (p := ⟨b, 6, none⟩) hkb _
          refine anyH_skip (i := 10) (by kernel_rfl) rfl none rfl (by kernel_rfl) (ex_store rfl rfl rfl (store_any (size_one24 _) (box_cell f3 rfl) (box_froz f3))) t1 ?_
          simp only [Act.put]
          refine anyH_take (i := 11) (v := .pointer (some ⟨b, 5, none⟩)) rfl (some 13) rfl (by kernel_rfl) (by kernel_rfl) (by kernel_rfl) (fun _ _ _ h => by cases h.1) (by kernel_rfl) (fun _ _ => ex_fldNd5 rfl rfl) t1 ?_
          simp only [Act.put, List.setIfInBounds_toArray, List.set_cons_zero, List.set_cons_succ]
          refine anyH_skip (i := 12) (by kernel_rfl) rfl none rfl (by kernel_rfl) (ex_store rfl rfl rfl (store_any (size_one25 _) (box_cell h1 rfl) (box_froz h1))) t2 ?_
          simp only [Act.put]
          refine anyH_take (i := 13) (v := .pointer (some ⟨b, 6, none⟩)) rfl (some 14) rfl (by kernel_rfl) (by kernel_rfl) (by kernel_rfl) (fun _ _ _ h => by cases h.1) (by kernel_rfl) (fun _ _ => ex_fldNd6 rfl rfl) t2 ?_
          simp only [Act.put, List.setIfInBounds_toArray, List.set_cons_zero, List.set_cons_succ]
          refine anyH_skip (i := 14) (by kernel_rfl) rfl none rfl (by kernel_rfl) (ex_store rfl rfl rfl (store_any (size_one26 _) (box_cell h2 rfl) (box_froz h2))) t3 ?_
          simp only [Act.put]
          exact wpAnyH_done (by kernel_rfl) ⟨rfl, ⟨aa, ac, sa, sc, ia, ic⟩, fill (fresh_end hm f3 hbne (SV3.block r hrV) hr0 (hkW.trans t3) ma ms mi la ls li) (by kernel_rfl)⟩ _
      case p11x4 =>
        refine op_val rfl (some 7) rfl (by kernel_rfl) (ex_load rfl rfl (load_anyS ((SV0.cell (p := ⟨b, 5, none⟩) hbV).trans c5))) ?_
        refine ⟨SV0.mono hkV, ?_⟩
        simp only [Act.put, List.setIfInBounds_toArray, List.set_cons_zero, List.set_cons_succ]
        refine anyH_one (i := 1) (by kernel_rfl) ?_
        refine op_val rfl (some 4) rfl (by kernel_rfl) (ex_load rfl rfl (load_anyA ((SV0.cell (p := ⟨b, 4, none⟩) hbV).trans c4))) ?_
        refine ⟨SV0.mono hkV, ?_⟩
        simp only [Act.put, List.setIfInBounds_toArray, List.set_cons_zero, List.set_cons_succ]
        refine anyH_one (i := 2) (by kernel_rfl) ?_
        refine op_call rfl (some 5) rfl (by kernel_rfl) #[.slice v.aa n.affs.length v.ac] rfl (by simp [Act.eval]) (fun _ _ => rfl) (copied_a v.aa v.ac n.affs V0 ((hm.ok.1.below (SV0.mono hkV)).raise (Nat.le_trans hkV SV0.size))) ?_
        rintro e V1 ⟨va, rfl, oa, b1⟩
        obtain ⟨aa, ac, rfl, ma_, la, _, ha_⟩ := own_a oa hm.ok.1.1
        have ma := And.intro ma_ (show ∀ a, aa = some a → a.block ≠ b ∧ a.block ≠ r ∧ wk ≤ a.block from fun a e => by have := (ha_ a e).1; have := SV0.size; omega)
        have SV1 : Below V0.heap.size V0 V1 := SV0.trans (b1.mono SV0.size)
        refine ⟨_, rfl, SV1.mono hkV, ?_⟩
        simp only [Act.put, List.setIfInBounds_toArray, List.set_cons_zero, List.set_cons_succ]
        refine anyH_take (i := 9) (v := .pointer (some ⟨b, 4, none⟩)) rfl (some 12) rfl (by kernel_rfl) (by kernel_rfl) (by kernel_rfl) (fun _ _ _ h => by cases h.1) (by kernel_rfl) (fun _ _ => ex_fldNd4 rfl rfl) (SV1.mono hkV) ?_
        simp only [Act.put, List.setIfInBounds_toArray, List.set_cons_zero, List.set_cons_succ]
        refine anyH_one (i := 5) (by kernel_rfl) ?_
        refine op_call rfl (some 8) rfl (by kernel_rfl) #[.slice v.sa n.subs.length v.sc] rfl (by simp [Act.eval]) (fun _ _ => rfl) (copied_s v.sa v.sc n.subs V1 ((hm.ok.2.1.below (SV1.mono hkV)).raise (Nat.le_trans hkV SV1.size))) ?_
        rintro e V2 ⟨vs, rfl, os, b2⟩
        obtain ⟨sa, sc, rfl, ms_, ls, _, hs_⟩ := own_s os hm.ok.2.1.1
        have ms := And.intro ms_ (show ∀ a, sa = some a → a.block ≠ b ∧ a.block ≠ r ∧ wk ≤ a.block from fun a e => by have := (hs_ a e).1; have := SV1.size; omega)
        have SV2 : Below V0.heap.size V0 V2 := SV1.trans (b2.mono SV1.size)
        replace ma := And.intro ((ma.1.below b2).raise b2.size) ma.2
        refine ⟨_, rfl, SV2.mono hkV, ?_⟩
        simp only [Act.put, List.setIfInBounds_toArray, List.set_cons_zero, List.set_cons_succ]
        refine anyH_one (i := 8) (by kernel_rfl) ?_
        refine op_call rfl (some 11) rfl (by kernel_rfl) #[.slice v.ia n.items.length v.ic] rfl (by simp [Act.eval]) (fun _ _ => rfl) (copied_i v.ia v.ic n.items V2 ((hm.it.below (SV2.mono hkV)).raise (Nat.le_trans hkV SV2.size))) ?_
        rintro e V3 ⟨vi, rfl, oi, b3⟩
        obtain ⟨ia, ic, rfl, mi_, li, _, hi_⟩ := own_i oi hm.it.1
        have mi := And.intro mi_ (show ∀ a, ia = some a → a.block ≠ b ∧ a.block ≠ r ∧ wk ≤ a.block from fun a e => by have := (hi_ a e).1; have := SV2.size; omega)
        have SV3 : Below V0.heap.size V0 V3 := SV2.trans (b3.mono SV2.size)
        replace ma := And.intro ((ma.1.below b3).raise b3.size) ma.2
        replace ms := And.intro ((ms.1.below b3).raise b3.size) ms.2
        refine ⟨_, rfl, SV3.mono hkV, ?_⟩
        simp only [Act.put, List.setIfInBounds_toArray, List.set_cons_zero, List.set_cons_succ]
        have f3 := (SV3.block b hbV).trans f0
        have h1 := heap_setk (i := 4) (v := .slice aa n.affs.length ac) f3
        have h2 := heap_setk (i := 5) (v := .slice sa n.subs.length sc) h1
        have h3 := heap_setk (i := 6) (v := .slice ia n.items.length ic) h2
        have t0 : Below wk V0 V3 := SV3.mono hkV
        have t1 : Below wk V0 (V3.setCell ⟨b, 4, none⟩ (.slice aa n.affs.length ac)) := t0.setCell (p := ⟨b, 4, none⟩) hkb _
        have t2 : Below wk V0 ((V3.setCell ⟨b, 4, none⟩ (.slice aa n.affs.length ac)).setCell ⟨b, 5, none⟩ (.slice sa n.subs.length sc)) := t1.setCell (p := ⟨b, 5, none⟩) hkb _
        have t3 : Below wk V0 (((V3.setCell ⟨b, 4, none⟩ (.slice aa n.affs.length ac)).setCell ⟨b, 5, none⟩ (.slice sa n.subs.length sc)).setCell ⟨b, 6, none⟩ (.slice ia n.items.length ic)) := t2.setCell (p := ⟨b, 6, none⟩) hkb _
        refine anyH_skip (i := 10) (by kernel_rfl) rfl none rfl (by kernel_rfl) (ex_store rfl rfl rfl (store_any (size_one24 _) (box_cell f3 rfl) (box_froz f3))) t1 ?_
        simp only [Act.put]
        refine anyH_take (i := 11) (v := .pointer (some ⟨b, 5, none⟩)) rfl (some 13) rfl (by kernel_rfl) (by kernel_rfl) (by kernel_rfl) (fun _ _ _ h => by cases h.1) (by kernel_rfl) (fun _ _ => ex_fldNd5 rfl rfl) t1 ?_
        simp only [Act.put, List.setIfInBounds_toArray, List.set_cons_zero, List.set_cons_succ]
        refine anyH_skip (i := 12) (by kernel_rfl) rfl none rfl (by kernel_rfl) (ex_store rfl rfl rfl (store_any (size_one25 _) (box_cell h1 rfl) (box_froz h1))) t2 ?_
        simp only [Act.put]
        refine anyH_take (i := 13) (v := .pointer (some ⟨b, 6, none⟩)) rfl (some 14) rfl (by kernel_rfl) (by kernel_rfl) (by kernel_rfl) (fun _ _ _ h => by cases h.1) (by kernel_rfl) (fun _ _ => ex_fldNd6 rfl rfl) t2 ?_
        simp only [Act.put, List.setIfInBounds_toArray, List.set_cons_zero, List.set_cons_succ]
        refine anyH_skip (i := 14) (by kernel_rfl) rfl none rfl (by kernel_rfl) (ex_store rfl rfl rfl (store_any (size_one26 _) (box_cell h2 rfl) (box_froz h2))) t3 ?_
        simp only [Act.put]
        exact wpAnyH_done (by kernel_rfl) ⟨rfl, ⟨aa, ac, sa, sc, ia, ic⟩, fill (fresh_end hm f3 hbne (SV3.block r hrV) hr0 (hkW.trans t3) ma ms mi la ls li) (by kernel_rfl)⟩ _
  case fin =>
    rintro a W2 ⟨u, xx, hE, rfl⟩
    clear hV0 d0 f0 c4 c5 c6
    obtain ⟨hbox, hres, hmem, hfar, hbel⟩ := hE
    have hkr : wk ≤ r := by omega
    obtain ⟨c0, c1, c2, c3, c4, c5, c6, c7⟩ := nd_box hbox
    obtain ⟨z0, z1, z2, z3, z4, z5, z6, z7⟩ := nd_box (n := ⟨⟨#[]⟩, false, 0, 0, [], [], [], ⟨#[]⟩⟩) (v := ⟨none, 0, none, 0, none, 0⟩) hres
    have y0 : W2.frozen? ⟨r, 0, none⟩ = false := by simp [World.frozen?, hres]
    have y1 : W2.frozen? ⟨r, 1, none⟩ = false := by simp [World.frozen?, hres]
    have y2 : W2.frozen? ⟨r, 2, none⟩ = false := by simp [World.frozen?, hres]
    have y3 : W2.frozen? ⟨r, 3, none⟩ = false := by simp [World.frozen?, hres]
    have y4 : W2.frozen? ⟨r, 4, none⟩ = false := by simp [World.frozen?, hres]
    have y5 : W2.frozen? ⟨r, 5, none⟩ = false := by simp [World.frozen?, hres]
    have y6 : W2.frozen? ⟨r, 6, none⟩ = false := by simp [World.frozen?, hres]
    have y7 : W2.frozen? ⟨r, 7, none⟩ = false := by simp [World.frozen?, hres]
    have HE := hide (And.intro hbox (And.intro hres (And.intro hmem (And.intro hfar hbel))))
    clear hbox hres hmem hfar hbel
    go_wp2_with fail
    obtain ⟨hbox, hres, hmem, hfar, hbel⟩ := HE.out
    have hfin := set8_nd (n := n) (u := u) hres
    have hend := bel8_nd (n := n) (u := u) hbel hkr
    have hfb := far8_nd (w := W2) (n := n) (u := u) (r := r)
    have hz8 : ((((((((W2.setCell ⟨r, 0, none⟩ (.string n.name)).setCell ⟨r, 1, none⟩ (.bool n.coll)).setCell ⟨r, 2, none⟩ (.int .u8 n.acc)).setCell ⟨r, 3, none⟩ (.int .i64 n.max)).setCell ⟨r, 4, none⟩ (.slice u.aa n.affs.length u.ac)).setCell ⟨r, 5, none⟩ (.slice u.sa n.subs.length u.sc)).setCell ⟨r, 6, none⟩ (.slice u.ia n.items.length u.ic)).setCell ⟨r, 7, none⟩ (.string n.parent)).heap.size = W2.heap.size := by simp only [size_set]
    refine bodyPost_ret (results_nd rfl rfl hfin) rfl ⟨u, rfl, ?_, ?_, ?_⟩
    · exact ndM_far hmem hz8 hfb ⟨fun a e => (hfar.1 a e).1, fun a e => (hfar.2.1 a e).1, fun a e => (hfar.2.2 a e).1⟩
    · exact ⟨fun a e => by have := (hfar.1 a e).2; omega, fun a e => by have := (hfar.2.1 a e).2; omega, fun a e => by have := (hfar.2.2 a e).2; omega⟩
    · have hend2 := hend
      rw [← hwk, hb] at hend2
      exact hend2
end Go.Proofs.YtffjmkngdjbjlaaGreatDoor
