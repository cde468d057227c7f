/- Slots: a sector is taken for a root. -/
import Derived.Test.YtfknjmfkkaoggaaS4
import Derived.Test.YtfknjmfkkaoggaaSE
import Derived.Test.YtfknjmfkkaoggaaRG
import Derived.Test.YtfknjmfkkaoggaaOp
namespace Go.Proofs.Ytfknjmfkkaoggaa
open Go.RowKit Go.Shelf

/-- What a sector tells as a root. -/
def rT (s : Sec) : V := numL ((s.drop 2).take 8) 0#64
def low (x : V) : U := BitVec.ofNat 32 x.toNat
def rN (s : Sec) : U := low (numL ((s.drop 10).take 4) 0#64)
def rS (s : Sec) : U := low (numL ((s.drop 14).take 4) 0#64)
theorem sec_memo {w : World} {g : Nat} {s : List UInt8} {T : TypeId} (o k : Nat) (h : w.heap[g]? = some (.cells (secA s) T)) : ByteMem w.heap.size w (some ⟨g, o, none⟩) ((s.drop o).take k) := fun j c hj => by
  have hg : g < w.heap.size := (Array.getElem?_eq_some_iff.1 h).1
  have hj' : s[o + j]? = some c := by
    rw [List.getElem?_take] at hj
    split at hj
    · rw [List.getElem?_drop] at hj
      exact hj
    · cases hj
  refine ⟨g, o, rfl, hg, ?_⟩
  simp [World.cell?, h, secA_get hj']
theorem ex_low {o : Oper} {a : Act} {w : World} {y : Operand} {x : V} (ho : o.op = .convert 36 32 y) (hy : a.eval y = .int .u64 x.toNat) : (execOp a.eval o).run Try.prog w = .ok (.value (.int .u32 (low x).toNat)) w := by
  have h : (convert 36 32 (.int .u64 x.toNat)).run Try.prog w = .ok (.int .u32 (low x).toNat) w := by
    go_simp
    unfold low
    rw [BitVec.toNat_ofNat]
    rw [IntKind.wrap_u32]
    omega
  unfold execOp
  simp [ho, hy, h]
theorem infoRoot : (Try.prog.info? 115).map (fun i => (i.zero, i.size, i.bytes)) = some (some (.agg #[.int .u64 0, .int .u32 0, .int .u32 0]), 3, 16) := by kernel_rfl
theorem run_alloc_root (w : World) : (Instr.alloc 115 true (.tuple #[])).run Try.prog w = .ok (.pointer (some ⟨w.heap.size, 0, none⟩)) (w.alloc (.cells #[.int .u64 0, .int .u32 0, .int .u32 0] 115)) := run_alloc_long infoRoot w
theorem ex_build3 {o : Oper} {a : Act} {w : World} {T : TypeId} {ps : Array (Nat × Operand)} {v : Value} {us : Array (Nat × Value)} (ho : o.op = .build T ps) (hp : (ps.map fun x => (x.1, a.eval x.2)) = us) (hr : (Instr.build T us).run Try.prog w = .ok v w) : (execOp a.eval o).run Try.prog w = .ok (.value v) w := by
  unfold execOp
  simp only [ho]
  rw [show (ps.map fun (i, x) => (i, a.eval x)) = us from hp]
  simp [hr]
theorem run_build3 (a b c : Int) (w : World) : (Instr.build 115 #[(0, .int .u64 a), (1, .int .u32 b), (2, .int .u32 c)]).run Try.prog w = .ok (.agg #[.int .u64 a, .int .u32 b, .int .u32 c]) w := by kernel_rfl
theorem set3 {w : World} {b : Nat} {x y z : Value} {T : TypeId} (h : w.heap[b]? = some (.cells #[x, y, z] T)) (x' y' z' : Value) : (((w.setCell ⟨b, 0, none⟩ x').setCell ⟨b, 1, none⟩ y').setCell ⟨b, 2, none⟩ z').heap[b]? = some (.cells #[x', y', z'] T) :=
  heap_setCell_same _ _ 2 _ _ z' (heap_setCell_same _ _ 1 _ _ y' (heap_setCell_same _ _ 0 _ _ x' h))
theorem other3 {w : World} {b j : Nat} (a0 a1 a2 : Value) (hj : j ≠ b) : (((w.setCell ⟨b, 0, none⟩ a0).setCell ⟨b, 1, none⟩ a1).setCell ⟨b, 2, none⟩ a2).heap[j]? = w.heap[j]? :=
  (Below.heap_setCell _ _ _ _ hj).trans ((Below.heap_setCell _ _ _ _ hj).trans (Below.heap_setCell _ _ _ _ hj))
theorem run_store_root {w : World} {b : Nat} {v0 v1 v2 : Value} {T : TypeId} (h : w.heap[b]? = some (.cells #[v0, v1, v2] T)) (x y z : Int) : (Instr.storeAt 115 (.pointer (some ⟨b, 0, none⟩)) (.agg #[.int .u64 x, .int .u32 y, .int .u32 z])).run Try.prog w = .ok () (((w.setCell ⟨b, 0, none⟩ (.int .u64 x)).setCell ⟨b, 1, none⟩ (.int .u32 y)).setCell ⟨b, 2, none⟩ (.int .u32 z)) := by
  have a := Try.isAgg115
  have z' := Try.sizeOf115
  have f : ∀ i, w.frozen? ⟨b, i, none⟩ = false := fun i => by simp [World.frozen?, h]
  have c0 : w.cell? ⟨b, 0, none⟩ = some v0 := by simp [World.cell?, h]
  have c1 : w.cell? ⟨b, 1, none⟩ = some v1 := by simp [World.cell?, h]
  have c2 : w.cell? ⟨b, 2, none⟩ = some v2 := by simp [World.cell?, h]
  go_simp
theorem ex_any {o : Oper} {a : Act} {w : World} {s : Operand} {v : Value} (ho : o.op = .assign s) (hs : a.eval s = v) : (execOp a.eval o).run Try.prog w = .ok (.value v) w := by
  unfold execOp
  simp [ho, hs]
theorem hp_lt {w : World} {j : Nat} {o : Obj} (h : w.heap[j]? = some o) : j < w.heap.size := (Array.getElem?_eq_some_iff.1 h).1
theorem results_root {fn : Func} {tmps : Array Value} {w : World} {b : Nat} {v0 v1 v2 r : Value} (h : fn.results = #[.cell 2 115, .tmp 3]) (hp : tmps[2]?.getD undef = .pointer (some ⟨b, 0, none⟩)) (hr : tmps[3]?.getD undef = r) (hc : w.heap[b]? = some (.cells #[v0, v1, v2] 115)) : (results fn tmps).run Try.prog w = .ok (.tuple #[.agg #[v0, v1, v2], r]) w := by
  have c0 : w.cell? ⟨b, 0, none⟩ = some v0 := by simp [World.cell?, hc]
  have c1 : w.cell? ⟨b, 1, none⟩ = some v1 := by simp [World.cell?, hc]
  have c2 : w.cell? ⟨b, 2, none⟩ = some v2 := by simp [World.cell?, hc]
  simp [results, h, hp, hr, c0, c1, c2, go_sem, Try.isAgg115, Try.sizeOf115]
set_option maxRecDepth 100000 in
set_option maxHeartbeats 4000000 in
theorem readRoot_any (s : Sec) (w : World) (hs : s.length = 64) : Calls Try.prog 74 #[.agg (secA s)] w fun e w' => e = .returned (.tuple #[.agg #[.int .u64 (rT s).toNat, .int .u32 (rN s).toNat, .int .u32 (rS s).toNat], .bool (decide (rootS (rT s) (rN s) (rS s) = s))]) ∧ Below w.heap.size w w' := by
  obtain ⟨Wb, hWb, a1, a2, hz, hb⟩ := two_new w (.cells (secA s) 59) (.cells #[.int .u64 0, .int .u32 0, .int .u32 0] 115)
  have HN0 := hide fun (V : World) (h : V.heap[w.heap.size]? = some (.cells (secA s) 59)) => number_any (some ⟨w.heap.size, 2, none⟩) 62 ((s.drop 2).take 8) V (by rw [List.length_take]; omega) (sec_memo 2 8 h)
  have HN1 := hide fun (V : World) (h : V.heap[w.heap.size]? = some (.cells (secA s) 59)) => number_any (some ⟨w.heap.size, 10, none⟩) 54 ((s.drop 10).take 4) V (by rw [List.length_take]; omega) (sec_memo 10 4 h)
  have HN2 := hide fun (V : World) (h : V.heap[w.heap.size]? = some (.cells (secA s) 59)) => number_any (some ⟨w.heap.size, 14, none⟩) 50 ((s.drop 14).take 4) V (by rw [List.length_take]; omega) (sec_memo 14 4 h)
  rw [show ((s.drop 2).take 8).length = 8 from by rw [List.length_take, List.length_drop, hs]; rfl] at HN0
  rw [show ((s.drop 10).take 4).length = 4 from by rw [List.length_take, List.length_drop, hs]; rfl] at HN1
  rw [show ((s.drop 14).take 4).length = 4 from by rw [List.length_take, List.length_drop, hs]; rfl] at HN2
  rw [show numL ((s.drop 2).take 8) 0#64 = rT s from rfl] at HN0
  have HB := hide (And.intro a1 (And.intro a2 (And.intro hz (And.intro hb hs))))
  have HW := hide hWb
  clear a1 a2 hz hb hs hWb
  go_enter Try.func74, Try.ntmps74
  go_wp2_with (first
    | (refine l_val rfl _ (ex_box rfl rfl (run_box_long _ _ w)) ?_)
    | (refine l_alloc _ infoRoot rfl rfl ?_))
  rw [HW.out]
  obtain ⟨V0, hV0⟩ : ∃ V0, Wb.drew = V0 := ⟨_, rfl⟩
  obtain ⟨a1, a2, hz, hb, hs⟩ := HB.out
  have BV : Below w.heap.size w V0 := by rw [← hV0]; exact hb.drew
  have GV0 : V0.heap[w.heap.size]? = some (.cells (secA s) 59) := by rw [← hV0]; exact a1
  have gz : V0.heap[w.heap.size + 1]? = some (.cells #[.int .u64 0, .int .u32 0, .int .u32 0] 115) := by rw [← hV0]; exact a2
  have zV : V0.heap.size = w.heap.size + 2 := by rw [← hV0]; exact hz
  obtain ⟨V1, hV1⟩ : ∃ V1, V0.alloc (.cells #[.int .u64 0, .int .u32 0, .int .u32 0] 115) = V1 := ⟨_, rfl⟩
  have hAl : (Instr.alloc 115 true (.tuple #[])).run Try.prog V0 = .ok (.pointer (some ⟨w.heap.size + 2, 0, none⟩)) V1 := by rw [run_alloc_root, zV, hV1]
  have GV1 : V1.heap[w.heap.size]? = some (.cells (secA s) 59) := by rw [← hV1]; exact (Below.heap_alloc _ _ _ (by omega)).trans GV0
  obtain ⟨V2, hV2⟩ : ∃ V2, V0.alloc (.cells #[.int .u64 (rT s).toNat, .int .u32 (rN s).toNat, .int .u32 (rS s).toNat] 115) = V2 := ⟨_, rfl⟩
  have hSt := run_store_new (P := Try.prog) infoRoot V0 (cs := #[.int .u64 (rT s).toNat, .int .u32 (rN s).toNat, .int .u32 (rS s).toNat]) (c := #[.int .u64 0, .int .u32 0, .int .u32 0]) rfl rfl (by simp [Value.oneCell'])
  rw [hV1, hV2] at hSt
  have f0 : V2.heap[w.heap.size]? = some (.cells (secA s) 59) := by rw [← hV2]; exact (Below.heap_alloc _ _ _ (by omega)).trans GV0
  have f1 : V2.heap[w.heap.size + 1]? = some (.cells #[.int .u64 0, .int .u32 0, .int .u32 0] 115) := by rw [← hV2]; exact (Below.heap_alloc _ _ _ (by omega)).trans gz
  have f2 : V2.heap[w.heap.size + 2]? = some (.cells #[.int .u64 (rT s).toNat, .int .u32 (rN s).toNat, .int .u32 (rS s).toNat] 115) := by rw [← hV2, ← zV]; exact World.alloc_heap_new _ _
  have BV2 : Below w.heap.size w V2 := by rw [← hV2]; exact BV.alloc (by omega) _
  rw [zV] at hSt
  refine region_rel (S := fun _ => True) (fun a W => ∃ xx : Nat → Value, (W.heap[w.heap.size]? = some (.cells (secA s) 59) ∧ W.heap[w.heap.size + 1]? = some (.cells #[.int .u64 0, .int .u32 0, .int .u32 0] 115) ∧ W.heap[w.heap.size + 2]? = some (.cells #[.int .u64 (rT s).toNat, .int .u32 (rN s).toNat, .int .u32 (rS s).toNat] 115) ∧ Below w.heap.size w W) ∧ a = { tmps := #[xx 0, .pointer (some ⟨w.heap.size, 0, none⟩), .pointer (some ⟨w.heap.size + 1, 0, none⟩), xx 3, .pointer (some ⟨w.heap.size + 2, 0, none⟩), xx 5, xx 6, xx 7, xx 8, xx 9, xx 10, xx 11, xx 12, xx 13, xx 14, xx 15, xx 16, xx 17, xx 18], defers := [] }) (by kernel_rfl) ?reg ?beh
  case reg =>
    rw [hV0]
    refine anyH_take (i := 0) (v := .slice (some ⟨w.heap.size, 2, none⟩) 8 62) rfl (some 5) rfl (by kernel_rfl) (by kernel_rfl) (by kernel_rfl) (fun _ _ _ h => by cases h.1) rfl (fun w0 hw0 => by first | rfl | kernel_rfl) trivial ?_
    simp only [Act.put, List.setIfInBounds_toArray, List.set_cons_zero, List.set_cons_succ]
    refine anyH_take (i := 2) (v := .slice (some ⟨w.heap.size, 10, none⟩) 4 54) rfl (some 7) rfl (by kernel_rfl) (by kernel_rfl) (by kernel_rfl) (fun _ _ _ h => by cases h.1) rfl (fun w0 hw0 => by first | rfl | kernel_rfl) trivial ?_
    simp only [Act.put, List.setIfInBounds_toArray, List.set_cons_zero, List.set_cons_succ]
    refine anyH_take (i := 5) (v := .slice (some ⟨w.heap.size, 14, none⟩) 4 50) rfl (some 10) rfl (by kernel_rfl) (by kernel_rfl) (by kernel_rfl) (fun _ _ _ h => by cases h.1) rfl (fun w0 hw0 => by first | rfl | kernel_rfl) trivial ?_
    simp only [Act.put, List.setIfInBounds_toArray, List.set_cons_zero, List.set_cons_succ]
    refine anyH_two (i := 1) (j := 9) (by kernel_rfl) ?_ ?_
    · refine op_call rfl (some 6) rfl rfl #[.slice (some ⟨w.heap.size, 2, none⟩) 8 62] rfl (by simp [Act.eval]) (fun _ _ => rfl) (HN0.out V0 GV0) ?_
      rintro e W ⟨rfl, hWW⟩
      rw [hWW]
      clear hWW W
      refine ⟨_, rfl, trivial, ?_⟩
      simp only [Act.put, List.setIfInBounds_toArray, List.set_cons_zero, List.set_cons_succ]
      refine anyH_two (i := 3) (j := 9) (by kernel_rfl) ?_ ?_
      · refine op_call rfl (some 8) rfl rfl #[.slice (some ⟨w.heap.size, 10, none⟩) 4 54] rfl (by simp [Act.eval]) (fun _ _ => rfl) (HN1.out V0 GV0) ?_
        rintro e W ⟨rfl, hWW⟩
        rw [hWW]
        clear hWW W
        refine ⟨_, rfl, trivial, ?_⟩
        simp only [Act.put, List.setIfInBounds_toArray, List.set_cons_zero, List.set_cons_succ]
        refine anyH_take (i := 4) (v := .int .u32 (rN s).toNat) rfl (some 9) rfl (by kernel_rfl) (by kernel_rfl) (by kernel_rfl) (fun _ _ _ h => by cases h.1) rfl (fun w0 hw0 => ex_low rfl rfl) trivial ?_
        simp only [Act.put, List.setIfInBounds_toArray, List.set_cons_zero, List.set_cons_succ]
        refine anyH_two (i := 6) (j := 9) (by kernel_rfl) ?_ ?_
        · refine op_call rfl (some 11) rfl rfl #[.slice (some ⟨w.heap.size, 14, none⟩) 4 50] rfl (by simp [Act.eval]) (fun _ _ => rfl) (HN2.out V0 GV0) ?_
          rintro e W ⟨rfl, hWW⟩
          rw [hWW]
          clear hWW W
          refine ⟨_, rfl, trivial, ?_⟩
          simp only [Act.put, List.setIfInBounds_toArray, List.set_cons_zero, List.set_cons_succ]
          refine anyH_take (i := 7) (v := .int .u32 (rS s).toNat) rfl (some 12) rfl (by kernel_rfl) (by kernel_rfl) (by kernel_rfl) (fun _ _ _ h => by cases h.1) rfl (fun w0 hw0 => ex_low rfl rfl) trivial ?_
          simp only [Act.put, List.setIfInBounds_toArray, List.set_cons_zero, List.set_cons_succ]
          refine anyH_take (i := 8) (v := .agg #[.int .u64 (rT s).toNat, .int .u32 (rN s).toNat, .int .u32 (rS s).toNat]) rfl (some 13) rfl (by kernel_rfl) (by kernel_rfl) (by kernel_rfl) (fun _ _ _ h => by cases h.1) rfl (fun w0 hw0 => ex_build3 rfl (us := #[(0, .int .u64 (rT s).toNat), (1, .int .u32 (rN s).toNat), (2, .int .u32 (rS s).toNat)]) (by simp [Act.eval]) (run_build3 _ _ _ w0)) trivial ?_
          simp only [Act.put, List.setIfInBounds_toArray, List.set_cons_zero, List.set_cons_succ]
          refine anyH_one (i := 9) (by kernel_rfl) ?_
          refine op_run rfl (some 4) rfl rfl (ex_alloc rfl hAl) ?_
          refine ⟨trivial, ?_⟩
          simp only [Act.put, List.setIfInBounds_toArray, List.set_cons_zero, List.set_cons_succ]
          refine anyH_one (i := 10) (by kernel_rfl) ?_
          refine op_store rfl rfl rfl (ex_store (u := .agg #[.int .u64 (rT s).toNat, .int .u32 (rN s).toNat, .int .u32 (rS s).toNat]) rfl rfl rfl (hSt)) ?_
          refine ⟨trivial, ?_⟩
          simp only [Act.put]
          exact wpAnyH_done (by kernel_rfl) ⟨rfl, fill ⟨f0, f1, f2, BV2⟩ (by kernel_rfl)⟩ _
        · refine op_run rfl (some 4) rfl rfl (ex_alloc rfl hAl) ?_
          refine ⟨trivial, ?_⟩
          simp only [Act.put, List.setIfInBounds_toArray, List.set_cons_zero, List.set_cons_succ]
          refine anyH_one (i := 6) (by kernel_rfl) ?_
          refine op_call rfl (some 11) rfl rfl #[.slice (some ⟨w.heap.size, 14, none⟩) 4 50] rfl (by simp [Act.eval]) (fun _ _ => rfl) (HN2.out V1 GV1) ?_
          rintro e W ⟨rfl, hWW⟩
          rw [hWW]
          clear hWW W
          refine ⟨_, rfl, trivial, ?_⟩
          simp only [Act.put, List.setIfInBounds_toArray, List.set_cons_zero, List.set_cons_succ]
          refine anyH_take (i := 7) (v := .int .u32 (rS s).toNat) rfl (some 12) rfl (by kernel_rfl) (by kernel_rfl) (by kernel_rfl) (fun _ _ _ h => by cases h.1) rfl (fun w0 hw0 => ex_low rfl rfl) trivial ?_
          simp only [Act.put, List.setIfInBounds_toArray, List.set_cons_zero, List.set_cons_succ]
          refine anyH_take (i := 8) (v := .agg #[.int .u64 (rT s).toNat, .int .u32 (rN s).toNat, .int .u32 (rS s).toNat]) rfl (some 13) rfl (by kernel_rfl) (by kernel_rfl) (by kernel_rfl) (fun _ _ _ h => by cases h.1) rfl (fun w0 hw0 => ex_build3 rfl (us := #[(0, .int .u64 (rT s).toNat), (1, .int .u32 (rN s).toNat), (2, .int .u32 (rS s).toNat)]) (by simp [Act.eval]) (run_build3 _ _ _ w0)) trivial ?_
          simp only [Act.put, List.setIfInBounds_toArray, List.set_cons_zero, List.set_cons_succ]
          refine anyH_one (i := 10) (by kernel_rfl) ?_
          refine op_store rfl rfl rfl (ex_store (u := .agg #[.int .u64 (rT s).toNat, .int .u32 (rN s).toNat, .int .u32 (rS s).toNat]) rfl rfl rfl (hSt)) ?_
          refine ⟨trivial, ?_⟩
          simp only [Act.put]
          exact wpAnyH_done (by kernel_rfl) ⟨rfl, fill ⟨f0, f1, f2, BV2⟩ (by kernel_rfl)⟩ _
      · refine op_run rfl (some 4) rfl rfl (ex_alloc rfl hAl) ?_
        refine ⟨trivial, ?_⟩
        simp only [Act.put, List.setIfInBounds_toArray, List.set_cons_zero, List.set_cons_succ]
        refine anyH_one (i := 3) (by kernel_rfl) ?_
        refine op_call rfl (some 8) rfl rfl #[.slice (some ⟨w.heap.size, 10, none⟩) 4 54] rfl (by simp [Act.eval]) (fun _ _ => rfl) (HN1.out V1 GV1) ?_
        rintro e W ⟨rfl, hWW⟩
        rw [hWW]
        clear hWW W
        refine ⟨_, rfl, trivial, ?_⟩
        simp only [Act.put, List.setIfInBounds_toArray, List.set_cons_zero, List.set_cons_succ]
        refine anyH_take (i := 4) (v := .int .u32 (rN s).toNat) rfl (some 9) rfl (by kernel_rfl) (by kernel_rfl) (by kernel_rfl) (fun _ _ _ h => by cases h.1) rfl (fun w0 hw0 => ex_low rfl rfl) trivial ?_
        simp only [Act.put, List.setIfInBounds_toArray, List.set_cons_zero, List.set_cons_succ]
        refine anyH_one (i := 6) (by kernel_rfl) ?_
        refine op_call rfl (some 11) rfl rfl #[.slice (some ⟨w.heap.size, 14, none⟩) 4 50] rfl (by simp [Act.eval]) (fun _ _ => rfl) (HN2.out V1 GV1) ?_
        rintro e W ⟨rfl, hWW⟩
        rw [hWW]
        clear hWW W
        refine ⟨_, rfl, trivial, ?_⟩
        simp only [Act.put, List.setIfInBounds_toArray, List.set_cons_zero, List.set_cons_succ]
        refine anyH_take (i := 7) (v := .int .u32 (rS s).toNat) rfl (some 12) rfl (by kernel_rfl) (by kernel_rfl) (by kernel_rfl) (fun _ _ _ h => by cases h.1) rfl (fun w0 hw0 => ex_low rfl rfl) trivial ?_
        simp only [Act.put, List.setIfInBounds_toArray, List.set_cons_zero, List.set_cons_succ]
        refine anyH_take (i := 8) (v := .agg #[.int .u64 (rT s).toNat, .int .u32 (rN s).toNat, .int .u32 (rS s).toNat]) rfl (some 13) rfl (by kernel_rfl) (by kernel_rfl) (by kernel_rfl) (fun _ _ _ h => by cases h.1) rfl (fun w0 hw0 => ex_build3 rfl (us := #[(0, .int .u64 (rT s).toNat), (1, .int .u32 (rN s).toNat), (2, .int .u32 (rS s).toNat)]) (by simp [Act.eval]) (run_build3 _ _ _ w0)) trivial ?_
        simp only [Act.put, List.setIfInBounds_toArray, List.set_cons_zero, List.set_cons_succ]
        refine anyH_one (i := 10) (by kernel_rfl) ?_
        refine op_store rfl rfl rfl (ex_store (u := .agg #[.int .u64 (rT s).toNat, .int .u32 (rN s).toNat, .int .u32 (rS s).toNat]) rfl rfl rfl (hSt)) ?_
        refine ⟨trivial, ?_⟩
        simp only [Act.put]
        exact wpAnyH_done (by kernel_rfl) ⟨rfl, fill ⟨f0, f1, f2, BV2⟩ (by kernel_rfl)⟩ _
    · refine op_run rfl (some 4) rfl rfl (ex_alloc rfl hAl) ?_
      refine ⟨trivial, ?_⟩
      simp only [Act.put, List.setIfInBounds_toArray, List.set_cons_zero, List.set_cons_succ]
      refine anyH_one (i := 1) (by kernel_rfl) ?_
      refine op_call rfl (some 6) rfl rfl #[.slice (some ⟨w.heap.size, 2, none⟩) 8 62] rfl (by simp [Act.eval]) (fun _ _ => rfl) (HN0.out V1 GV1) ?_
      rintro e W ⟨rfl, hWW⟩
      rw [hWW]
      clear hWW W
      refine ⟨_, rfl, trivial, ?_⟩
      simp only [Act.put, List.setIfInBounds_toArray, List.set_cons_zero, List.set_cons_succ]
      refine anyH_one (i := 3) (by kernel_rfl) ?_
      refine op_call rfl (some 8) rfl rfl #[.slice (some ⟨w.heap.size, 10, none⟩) 4 54] rfl (by simp [Act.eval]) (fun _ _ => rfl) (HN1.out V1 GV1) ?_
      rintro e W ⟨rfl, hWW⟩
      rw [hWW]
      clear hWW W
      refine ⟨_, rfl, trivial, ?_⟩
      simp only [Act.put, List.setIfInBounds_toArray, List.set_cons_zero, List.set_cons_succ]
      refine anyH_take (i := 4) (v := .int .u32 (rN s).toNat) rfl (some 9) rfl (by kernel_rfl) (by kernel_rfl) (by kernel_rfl) (fun _ _ _ h => by cases h.1) rfl (fun w0 hw0 => ex_low rfl rfl) trivial ?_
      simp only [Act.put, List.setIfInBounds_toArray, List.set_cons_zero, List.set_cons_succ]
      refine anyH_one (i := 6) (by kernel_rfl) ?_
      refine op_call rfl (some 11) rfl rfl #[.slice (some ⟨w.heap.size, 14, none⟩) 4 50] rfl (by simp [Act.eval]) (fun _ _ => rfl) (HN2.out V1 GV1) ?_
      rintro e W ⟨rfl, hWW⟩
      rw [hWW]
      clear hWW W
      refine ⟨_, rfl, trivial, ?_⟩
      simp only [Act.put, List.setIfInBounds_toArray, List.set_cons_zero, List.set_cons_succ]
      refine anyH_take (i := 7) (v := .int .u32 (rS s).toNat) rfl (some 12) rfl (by kernel_rfl) (by kernel_rfl) (by kernel_rfl) (fun _ _ _ h => by cases h.1) rfl (fun w0 hw0 => ex_low rfl rfl) trivial ?_
      simp only [Act.put, List.setIfInBounds_toArray, List.set_cons_zero, List.set_cons_succ]
      refine anyH_take (i := 8) (v := .agg #[.int .u64 (rT s).toNat, .int .u32 (rN s).toNat, .int .u32 (rS s).toNat]) rfl (some 13) rfl (by kernel_rfl) (by kernel_rfl) (by kernel_rfl) (fun _ _ _ h => by cases h.1) rfl (fun w0 hw0 => ex_build3 rfl (us := #[(0, .int .u64 (rT s).toNat), (1, .int .u32 (rN s).toNat), (2, .int .u32 (rS s).toNat)]) (by simp [Act.eval]) (run_build3 _ _ _ w0)) trivial ?_
      simp only [Act.put, List.setIfInBounds_toArray, List.set_cons_zero, List.set_cons_succ]
      refine anyH_one (i := 10) (by kernel_rfl) ?_
      refine op_store rfl rfl rfl (ex_store (u := .agg #[.int .u64 (rT s).toNat, .int .u32 (rN s).toNat, .int .u32 (rS s).toNat]) rfl rfl rfl (hSt)) ?_
      refine ⟨trivial, ?_⟩
      simp only [Act.put]
      exact wpAnyH_done (by kernel_rfl) ⟨rfl, fill ⟨f0, f1, f2, BV2⟩ (by kernel_rfl)⟩ _
  case beh =>
    rintro a W ⟨xx, ⟨g0', g1', g2', hB⟩, rfl⟩
    have HI := hide (And.intro g0' (And.intro g1' (And.intro g2' hB)))
    clear g0' g1' g2' hB f0 f1 f2 BV2 hSt hAl hV2 hV1 GV1 GV0 gz zV BV hV0 V0 V1 V2 a1 a2 hz hb
    go_wp2_with fail
    obtain ⟨V0, hV0⟩ : ∃ V0, W.drew = V0 := ⟨_, rfl⟩
    obtain ⟨g0', g1', g2', hB⟩ := HI.out
    have BV : Below w.heap.size w V0 := by rw [← hV0]; exact hB.drew
    have g0 : V0.heap[w.heap.size]? = some (.cells (secA s) 59) := by rw [← hV0]; exact g0'
    have g1 : V0.heap[w.heap.size + 1]? = some (.cells #[.int .u64 0, .int .u32 0, .int .u32 0] 115) := by rw [← hV0]; exact g1'
    have g2 : V0.heap[w.heap.size + 2]? = some (.cells #[.int .u64 (rT s).toNat, .int .u32 (rN s).toNat, .int .u32 (rS s).toNat] 115) := by rw [← hV0]; exact g2'
    refine region_rel (S := fun W => W.heap[w.heap.size]? = some (.cells (secA s) 59) ∧ W.heap[w.heap.size + 2]? = some (.cells #[.int .u64 (rT s).toNat, .int .u32 (rN s).toNat, .int .u32 (rS s).toNat] 115)) (fun a W => ∃ xx : Nat → Value, (W.heap[w.heap.size + 1]? = some (.cells #[.int .u64 (rT s).toNat, .int .u32 (rN s).toNat, .int .u32 (rS s).toNat] 115) ∧ Below w.heap.size w W) ∧ a = { tmps := #[xx 0, xx 1, .pointer (some ⟨w.heap.size + 1, 0, none⟩), .bool (decide (rootS (rT s) (rN s) (rS s) = s)), xx 4, xx 5, xx 6, xx 7, xx 8, xx 9, xx 10, xx 11, xx 12, xx 13, xx 14, xx 15, xx 16, xx 17, xx 18], defers := [] }) (by kernel_rfl) ?reg2 ?beh2
    case reg2 =>
      rw [hV0]
      have S0 := And.intro g0 g2
      refine anyH_take (i := 0) (v := .agg #[.int .u64 (rT s).toNat, .int .u32 (rN s).toNat, .int .u32 (rS s).toNat]) rfl (some 14) rfl (by kernel_rfl) (by kernel_rfl) (by kernel_rfl) (fun _ _ _ h => by cases h.1) rfl (fun w0 hw0 => ex_load rfl rfl (run_load_row infoRoot Try.underlying115 rfl rfl hw0.2)) S0 ?_
      simp only [Act.put, List.setIfInBounds_toArray, List.set_cons_zero, List.set_cons_succ]
      refine anyH_take (i := 1) (v := .agg #[.int .u64 (rT s).toNat, .int .u32 (rN s).toNat, .int .u32 (rS s).toNat]) rfl (some 15) rfl (by kernel_rfl) (by kernel_rfl) (by kernel_rfl) (fun _ _ _ h => by cases h.1) rfl (fun w0 hw0 => ex_load rfl rfl (run_load_row infoRoot Try.underlying115 rfl rfl hw0.2)) S0 ?_
      simp only [Act.put, List.setIfInBounds_toArray, List.set_cons_zero, List.set_cons_succ]
      refine anyH_take (i := 3) (v := .agg (secA s)) rfl (some 17) rfl (by kernel_rfl) (by kernel_rfl) (by kernel_rfl) (fun _ _ _ h => by cases h.1) rfl (fun w0 hw0 => ex_load rfl rfl (run_load_row infoSecD undSecD rfl ((secA_size s).trans hs) hw0.1)) S0 ?_
      simp only [Act.put, List.setIfInBounds_toArray, List.set_cons_zero, List.set_cons_succ]
      refine anyH_one (i := 2) (by kernel_rfl) ?_
      refine op_call rfl (some 16) rfl rfl #[.agg #[.int .u64 (rT s).toNat, .int .u32 (rN s).toNat, .int .u32 (rS s).toNat]] rfl (by simp [Act.eval]) (fun _ _ => rfl) (sector_root (rT s) (rN s) (rS s) V0) ?_
      rintro e V1 ⟨rfl, b1⟩
      have h0 := (b1.block _ (hp_lt g0)).trans g0
      have h1 := (b1.block _ (hp_lt g1)).trans g1
      have h2 := (b1.block _ (hp_lt g2)).trans g2
      refine ⟨_, rfl, ⟨h0, h2⟩, ?_⟩
      simp only [Act.put, List.setIfInBounds_toArray, List.set_cons_zero, List.set_cons_succ]
      refine anyH_take (i := 4) (v := .bool (decide (rootS (rT s) (rN s) (rS s) = s))) rfl (some 18) rfl (by kernel_rfl) (by kernel_rfl) (by kernel_rfl) (fun _ _ _ h => by cases h.1) rfl (fun w0 hw0 => ex_eql rfl rfl rfl (by kernel_rfl) (sec_eql undSecD _ _ (root_lens _ _ _).2.2.2 hs w0)) ⟨h0, h2⟩ ?_
      simp only [Act.put, List.setIfInBounds_toArray, List.set_cons_zero, List.set_cons_succ]
      refine anyH_one (i := 5) (by kernel_rfl) ?_
      obtain ⟨V2, hV2⟩ : ∃ W, (((V1.setCell ⟨w.heap.size + 1, 0, none⟩ (.int .u64 (rT s).toNat)).setCell ⟨w.heap.size + 1, 1, none⟩ (.int .u32 (rN s).toNat)).setCell ⟨w.heap.size + 1, 2, none⟩ (.int .u32 (rS s).toNat)) = W := ⟨_, rfl⟩
      refine op_store rfl rfl rfl (ex_store (u := .agg #[.int .u64 (rT s).toNat, .int .u32 (rN s).toNat, .int .u32 (rS s).toNat]) rfl rfl rfl (run_store_root h1 _ _ _)) ?_
      rw [hV2]
      have k1 : V2.heap[w.heap.size + 1]? = some (.cells #[.int .u64 (rT s).toNat, .int .u32 (rN s).toNat, .int .u32 (rS s).toNat] 115) := by rw [← hV2]; exact set3 h1 _ _ _
      have k0 : V2.heap[w.heap.size]? = _ := (show V2.heap[w.heap.size]? = V1.heap[w.heap.size]? by rw [← hV2]; exact other3 _ _ _ (by omega)).trans h0
      have k2 : V2.heap[w.heap.size + 2]? = _ := (show V2.heap[w.heap.size + 2]? = V1.heap[w.heap.size + 2]? by rw [← hV2]; exact other3 _ _ _ (by omega)).trans h2
      have B1 : Below w.heap.size w V1 := BV.trans (b1.mono BV.size)
      have B2 : Below w.heap.size w V2 := by rw [← hV2]; exact ((B1.setCell (p := ⟨w.heap.size + 1, 0, none⟩) (by show w.heap.size ≤ w.heap.size + 1; omega) _).setCell (p := ⟨w.heap.size + 1, 1, none⟩) (by show w.heap.size ≤ w.heap.size + 1; omega) _).setCell (p := ⟨w.heap.size + 1, 2, none⟩) (by show w.heap.size ≤ w.heap.size + 1; omega) _
      refine ⟨⟨k0, k2⟩, ?_⟩
      simp only [Act.put]
      refine anyH_val (i := 6) (by kernel_rfl) rfl (some 3) rfl rfl (ex_any rfl rfl) ⟨k0, k2⟩ ?_
      simp only [Act.put, List.setIfInBounds_toArray, List.set_cons_zero, List.set_cons_succ]
      exact wpAnyH_done (by kernel_rfl) ⟨rfl, fill ⟨k1, B2⟩ (by kernel_rfl)⟩ _
    case beh2 =>
      rintro a W' ⟨xx, ⟨k1, hB'⟩, rfl⟩
      have HJ := hide (And.intro k1 hB')
      clear k1 hB'
      go_wp2_with fail
      exact bodyPost_ret (results_root rfl rfl rfl HJ.out.1) rfl ⟨rfl, HJ.out.2⟩
end Go.Proofs.Ytfknjmfkkaoggaa
