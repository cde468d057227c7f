/- Write: a sector is written, and does not last. -/
import Derived.Test.YtfknjmfkkaoggaaD5
import Derived.Test.YtfknjmfkkaoggaaDB
namespace Go.Proofs.Ytfknjmfkkaoggaa
open Go.RowKit Go.Shelf

/-- One more write. -/
def dvWrite (d : Dv) (i : Nat) (s : Sec) : Dv := ⟨d.las, d.wr ++ [(i, s)]⟩
theorem dvWrite_ok {d : Dv} (hd : DvOk d) {i : Nat} {s : Sec} (hi : i < d.las.length) (hs : s.length = 64) (hf : d.wr.length < 1000000) : DvOk (dvWrite d i s) := by
  refine ⟨hd.las, hd.pos, hd.most, fun x hx => ?_, by simp [dvWrite]; omega⟩
  simp only [dvWrite, List.mem_append, List.mem_singleton] at hx
  rcases hx with hx | rfl
  · exact hd.wr x hx
  · exact ⟨hi, hs⟩
theorem wrC_snoc (l : List (Nat × Sec)) (x : Nat × Sec) : wrC (l ++ [x]) = wrC l ++ wrC1 x := by simp [wrC]
theorem wr_mem1 (x : Nat × Sec) : ∀ v ∈ wrC1 x, v.oneCell' = true := fun v hv => by
  simp only [wrC1, List.mem_cons] at hv
  rcases hv with rfl | hv
  · rfl
  · exact one_bytes _ v hv
theorem list_cells {w : World} {b : Nat} {cs : List Value} {T : TypeId} (h : w.heap[b]? = some (.cells cs.toArray T)) : ∀ j u, cs[j]? = some u → w.cell? ((⟨b, 0, none⟩ : Addr).add j) = some u := fun j u hu => by
  rw [Addr.add_mid, cell_of_row w b (0 + j) _ _ _ h]
  simpa using hu
/-- The device behind an append to its writes, and the store. -/
theorem wrote {T Ts Tw : TypeId} {base p : Nat} {d : Dv} {vl vw v' : Value} {w W w1 : World} {x : Nat × Sec} {row : Option Nat} (h : IsDev T Ts Tw base p d vl vw w) (hTw : T ≠ Tw) (hTs : T ≠ Ts) (hsw : Ts ≠ Tw) (hb : base ≤ w.heap.size) (hB : Below w.heap.size w W) (hv : w1.ownsRow base Tw 65 v' (d.wr.length + 1) (wrC d.wr ++ wrC1 x)) (hg : W.grownBy w1 row) (hrow : ∀ r, row = some r → vw.ownBlock = some r ∨ w.heap.size ≤ r) (hat : ∀ g, v'.ownBlock = some g → vw.ownBlock = some g ∨ w.heap.size ≤ g) : DevTo T Ts Tw base p vl vw ⟨d.las, d.wr ++ [x]⟩ w (w1.setCell ⟨p, 1, none⟩ v') := by
  have hpw : p < w.heap.size := (Array.getElem?_eq_some_iff.1 h.here).1
  have hsame : ∀ j, j < w.heap.size → vw.ownBlock ≠ some j → w1.heap[j]? = w.heap[j]? := fun j hj hn => (hg.block j (Nat.lt_of_lt_of_le hj hB.size) (fun e => by
    rcases hrow j e.symm with h1 | h1
    · exact hn h1
    · omega)).trans (hB.block j hj)
  have hp1 : w1.heap[p]? = some (.cells #[vl, vw] T) := (hsame p hpw (fun e => own_ne0 h.wr h.here hTw p e rfl)).trans h.here
  have hvp : ∀ g, v'.ownBlock = some g → g ≠ p := fun g e => by
    rcases hat g e with h1 | h1
    · exact own_ne0 h.wr h.here hTw g h1
    · omega
  refine ⟨vl, v', ⟨h.low, heap_setCell_same _ _ 1 _ _ _ hp1, own_same h.las (fun g e => ?_), ?_⟩, ⟨?_, fun j hj hn => ?_⟩, fun j hj => ?_⟩
  · rw [Below.heap_setCell _ _ _ _ (own_ne0 h.las h.here hTs g e)]
    exact hsame g (own_lt h.las g e) (own_types h.las h.wr hsw g e)
  · rw [show (d.wr ++ [x]).length = d.wr.length + 1 by simp, wrC_snoc]
    exact own_same hv (fun g e => Below.heap_setCell _ _ _ _ (hvp g e))
  · refine Below.setCell (p := ⟨p, 1, none⟩) ?_ h.low _
    exact (hB.mono hb).grown hg (Nat.le_trans hb hB.size) (fun r e => by
      rcases hrow r e with h1 | h1
      · exact own_base h.wr r h1
      · omega)
  · rw [Below.heap_setCell _ _ _ _ (fun e => hn (.inl e))]
    exact hsame j hj (fun e => hn (.inr (.inr e)))
  · rcases hj with h1 | h1 | h1
    · exact .inl (.inl h1)
    · exact .inl (.inr (.inl h1))
    · rcases hat j h1 with h2 | h2
      · exact .inl (.inr (.inr h2))
      · exact .inr h2

set_option maxRecDepth 100000 in
set_option maxHeartbeats 2000000 in
theorem write_any (base p : Nat) (d : Dv) (vl vw : Value) (i : Nat) (s : Sec) (w : World) (h : IsD base p d vl vw w) (hd : DvOk d) (hb : base ≤ w.heap.size) (hi : i < d.las.length) (hs : s.length = 64) (hf : d.wr.length < 1000000) :
    Calls Try.prog 31 #[.pointer (some ⟨p, 0, none⟩), .int .i64 i, .agg (secA s)] w fun e w' => e = .returned (.int .i64 0) ∧ ToD base p vl vw (dvWrite d i s) w w' := by
  have hwr : wrongI d.las.length i = 0 := by unfold wrongI; rw [if_neg (by omega)]
  obtain ⟨W1, hW1⟩ : ∃ W1, w.alloc (.cells (secA s) 59) = W1 := ⟨_, rfl⟩
  have z1 : W1.heap.size = w.heap.size + 1 := by rw [← hW1]; simp
  have f1 : W1.heap[w.heap.size]? = some (.cells (secA s) 59) := by rw [← hW1]; exact World.alloc_heap_new w _
  have hB1 : Below w.heap.size w W1 := by rw [← hW1]; exact (Below.refl _ w).alloc (Nat.le_refl _) _
  have hD1 := h.below hB1
  have HC := hide (wrong_any base p d vl vw i W1 hD1)
  have HH := hide (And.intro h (And.intro hd (And.intro hB1 (And.intro hD1 f1))))
  clear h hd hB1 hD1 f1
  go_enter Try.func31, Try.ntmps31
  go_wp2_with (first | (refine l_val rfl _ (ex_box (ty := 59) rfl rfl (run_box_long _ (secA s) w)) ?_; rw [hW1]) | (go_at_call 52; refine HC.out.mono ?_; rintro e w' ⟨rfl, rfl⟩; rw [hwr]))
  obtain ⟨h, hd, hB1, hD1, f1⟩ := HH.out
  obtain ⟨_, q1, _, qf⟩ := hD1.cells
  refine region_rel (S := fun w0 => w0.heap[w.heap.size]? = some (.cells (secA s) 59)) (fun a w2 => ∃ v', ToD base p vl vw (dvWrite d i s) w w2 ∧ a = { tmps := #[.pointer (some ⟨p, 0, none⟩), .int .i64 i, .agg (secA s), undef, undef, .pointer (some ⟨w.heap.size, 0, none⟩), .int .i64 0, .int .i64 0, .pointer (some ⟨p, 0, none⟩), .int .i64 i, .int .i64 0, .int .i64 0, .bool false, undef, .pointer (some ⟨p, 0, none⟩), .pointer (some ⟨p, 0, none⟩), .pointer (some ⟨p, 0, none⟩), .pointer (some ⟨p, 1, none⟩), vw, .int .i64 i, .agg (secA s), .agg (wrC1 (i, s)).toArray, .slice (some ⟨w.heap.size + 1, 0, none⟩) 1 1, v', .pointer (some ⟨p, 0, none⟩), .pointer (some ⟨p, 1, none⟩)], defers := [] }) (by kernel_rfl) ?any ?fin
  case any =>
    have hS0 : w'.drew.heap[w.heap.size]? = some (.cells (secA s) 59) := f1
    have hl65 : (wrC1 (i, s)).toArray.size = 65 := by simp [wrC1, byteCells_len, hs]
    refine anyH_take (i := 0) (v := .pointer (some ⟨p, 0, none⟩)) rfl (some 14) rfl (by kernel_rfl) (by kernel_rfl) (by kernel_rfl) (fun _ _ _ h => by cases h.1) rfl (fun w0 hw0 => rfl) hS0 ?_
    simp only [Act.put, List.setIfInBounds_toArray, List.set_cons_zero, List.set_cons_succ]
    refine anyH_take (i := 1) (v := .pointer (some ⟨p, 0, none⟩)) rfl (some 15) rfl (by kernel_rfl) (by kernel_rfl) (by kernel_rfl) (fun _ _ _ h => by cases h.1) rfl (fun w0 hw0 => rfl) hS0 ?_
    simp only [Act.put, List.setIfInBounds_toArray, List.set_cons_zero, List.set_cons_succ]
    refine anyH_take (i := 2) (v := .pointer (some ⟨p, 0, none⟩)) rfl (some 16) rfl (by kernel_rfl) (by kernel_rfl) (by kernel_rfl) (fun _ _ _ h => by cases h.1) rfl (fun w0 hw0 => by kernel_rfl) hS0 ?_
    simp only [Act.put, List.setIfInBounds_toArray, List.set_cons_zero, List.set_cons_succ]
    refine anyH_take (i := 3) (v := .pointer (some ⟨p, 1, none⟩)) rfl (some 17) rfl (by kernel_rfl) (by kernel_rfl) (by kernel_rfl) (fun _ _ _ h => by cases h.1) rfl (fun w0 hw0 => by kernel_rfl) hS0 ?_
    simp only [Act.put, List.setIfInBounds_toArray, List.set_cons_zero, List.set_cons_succ]
    refine anyH_take (i := 5) (v := .int .i64 i) rfl (some 19) rfl (by kernel_rfl) (by kernel_rfl) (by kernel_rfl) (fun _ _ _ h => by cases h.1) rfl (fun w0 hw0 => rfl) hS0 ?_
    simp only [Act.put, List.setIfInBounds_toArray, List.set_cons_zero, List.set_cons_succ]
    refine anyH_take (i := 6) (v := .agg (secA s)) rfl (some 20) rfl (by kernel_rfl) (by kernel_rfl) (by kernel_rfl) (fun _ _ _ h => by cases h.1) rfl (fun w0 hw0 => ex_load rfl rfl (run_load_row (P := Try.prog) (cs := secA s) infoSecD undSecD rfl (by rw [secA_size, hs]) hw0)) hS0 ?_
    simp only [Act.put, List.setIfInBounds_toArray, List.set_cons_zero, List.set_cons_succ]
    refine anyH_take (i := 7) (v := .agg (wrC1 (i, s)).toArray) rfl (some 21) rfl (by kernel_rfl) (by kernel_rfl) (by kernel_rfl) (fun _ _ _ h => by cases h.1) rfl (fun w0 hw0 => ex_build (us := #[(0, .int .i64 i), (1, .agg (secA s))]) rfl (by simp [Act.eval]) (run_build_wrD i s hs w0)) hS0 ?_
    simp only [Act.put, List.setIfInBounds_toArray, List.set_cons_zero, List.set_cons_succ]
    obtain ⟨W2, hW2⟩ : ∃ W2, w'.drew.alloc (.cells (wrC1 (i, s)).toArray 98) = W2 := ⟨_, rfl⟩
    have hB2 : Below w'.heap.size w' W2 := by rw [← hW2]; exact (Below.refl _ w').drew.alloc (Nat.le_refl _) _
    have f2 : W2.heap[w.heap.size + 1]? = some (.cells (wrC1 (i, s)).toArray 98) := by
      have e := World.alloc_heap_new w'.drew (.cells (wrC1 (i, s)).toArray 98)
      rw [hW2] at e
      rw [← z1]
      exact e
    have hS2 : W2.heap[w.heap.size]? = some (.cells (secA s) 59) := (hB2.block _ (by omega)).trans f1
    have hD2 := hD1.below hB2
    obtain ⟨_, r1, _, _⟩ := hD2.cells
    have hbs : (Instr.buildSlice 89 1 #[(0, .agg (wrC1 (i, s)).toArray)]).run Try.prog w'.drew = .ok (.slice (some ⟨w.heap.size + 1, 0, none⟩) 1 1) W2 := by
      have e := run_one (t := 89) Try.underlying89 infoWrD (by simp [wrC1, byteCells_len, sec0]) (by omega) (by omega) (wrC1 (i, s)).toArray hl65 w'.drew
      rw [hW2] at e
      rw [← z1]
      exact e
    obtain ⟨ti, t1, t2, t3, t4⟩ := infos infoWrD
    obtain ⟨v', w3, hap, y1, y2, _, y4⟩ := run_append_own_at (P := Try.prog) W2 base 89 89 98 ti _ 65 72 Try.underlying89 t1 t2 t3 t4 (by simp [Value.cells, wrC1, byteCells_len, sec0]) (by omega) vw d.wr.length (wrC d.wr) hD2.wr ⟨w.heap.size + 1, 0, none⟩ 1 1 (wrC1 (i, s)) (by simpa using hl65) (list_cells f2) (wr_mem1 (i, s)) (by unfold maxLen; omega) (by omega) (Nat.le_trans hb (Nat.le_trans hB1.size hB2.size))
    have hBw : Below w.heap.size w W2 := hB1.trans (hB2.mono (by omega))
    have hvw : ∀ r, vw.ownBlock = some r → r < w.heap.size := fun r e => own_lt h.wr r e
    have hfin : ToD base p vl vw (dvWrite d i s) w (w3.setCell ⟨p, 1, none⟩ v') := wrote h (by decide) (by decide) (by decide) hb hBw y1 y2 (fun r e => .inl e) (fun g e => by
      rcases y4 with k | k
      · exact .inl (k ▸ e)
      · rw [k] at e
        cases e
        exact .inr hBw.size)
    have hS3 : w3.heap[w.heap.size]? = some (.cells (secA s) 59) := (y2.block _ (by have := hB2.size; omega) (fun e => by have := hvw _ e.symm; omega)).trans hS2
    have hpl : p < w.heap.size := (Array.getElem?_eq_some_iff.1 h.here).1
    have hp3 : w3.heap[p]? = some (.cells #[vl, vw] 91) := (y2.block p (by have := hB2.size; omega) (fun e => own_ne0 h.wr h.here (by decide) p e.symm rfl)).trans hD2.here
    have hS4 : (w3.setCell ⟨p, 1, none⟩ v').heap[w.heap.size]? = some (.cells (secA s) 59) := (Below.heap_setCell _ _ _ _ (by show w.heap.size ≠ p; omega)).trans hS3
    have hst : (Instr.storeAt 89 (.pointer (some ⟨p, 1, none⟩)) v').run Try.prog w3 = .ok () (w3.setCell ⟨p, 1, none⟩ v') := by
      obtain ⟨ga, gc, rfl⟩ := own_shape y1
      have c1 : w3.cell? ⟨p, 1, none⟩ = some vw := by simp [World.cell?, hp3]
      have c2 : w3.frozen? ⟨p, 1, none⟩ = false := by simp [World.frozen?, hp3]
      simp [Instr.storeAt, Instr.sureAddr, storeVar, c1, c2, go_sem, Value.cells]
    refine anyH_two (i := 4) (j := 8) (by kernel_rfl) ?b4 ?b8
    case b4 =>
      refine op_val (v := vw) (w' := w'.drew) rfl (some 18) rfl rfl (ex_load (ty := 89) rfl rfl (run_load_cell Try.underlying89 rfl q1)) ⟨f1, ?_⟩
      simp only [Act.put, List.setIfInBounds_toArray, List.set_cons_zero, List.set_cons_succ]
      refine anyH_val (i := 8) (by kernel_rfl) rfl (some 22) rfl rfl (ex_slice (us := #[(0, .agg (wrC1 (i, s)).toArray)]) rfl (by simp [Act.eval]) hbs) hS2 ?_
      simp only [Act.put, List.setIfInBounds_toArray, List.set_cons_zero, List.set_cons_succ]
      refine anyH_val (i := 9) (by kernel_rfl) rfl (some 23) rfl rfl (ex_append (s := .tmp 18) (x := .tmp 22) (t := 89) (u := vw) (v := .slice (some ⟨w.heap.size + 1, 0, none⟩) 1 1) rfl rfl rfl hap) hS3 ?_
      simp only [Act.put, List.setIfInBounds_toArray, List.set_cons_zero, List.set_cons_succ]
      refine anyH_val (i := 10) (v := .pointer (some ⟨p, 0, none⟩)) (w' := w3) (by kernel_rfl) rfl (some 24) rfl rfl (by kernel_rfl) hS3 ?_
      simp only [Act.put, List.setIfInBounds_toArray, List.set_cons_zero, List.set_cons_succ]
      refine anyH_val (i := 11) (v := .pointer (some ⟨p, 1, none⟩)) (w' := w3) (by kernel_rfl) rfl (some 25) rfl rfl (by kernel_rfl) hS3 ?_
      simp only [Act.put, List.setIfInBounds_toArray, List.set_cons_zero, List.set_cons_succ]
      refine anyH_skip (i := 12) (by kernel_rfl) rfl none rfl rfl (ex_store (ty := 89) (x := .tmp 25) (y := .tmp 23) (u := v') (p := ⟨p, 1, none⟩) rfl rfl rfl hst) hS4 ?_
      exact wpAnyH_done (by kernel_rfl) ⟨rfl, v', hfin, rfl⟩ _
    case b8 =>
      refine op_val rfl (some 22) rfl rfl (ex_slice (us := #[(0, .agg (wrC1 (i, s)).toArray)]) rfl (by simp [Act.eval]) hbs) ⟨hS2, ?_⟩
      simp only [Act.put, List.setIfInBounds_toArray, List.set_cons_zero, List.set_cons_succ]
      refine anyH_val (i := 4) (v := vw) (w' := W2) (by kernel_rfl) rfl (some 18) rfl rfl (ex_load (ty := 89) rfl rfl (run_load_cell Try.underlying89 rfl r1)) hS2 ?_
      simp only [Act.put, List.setIfInBounds_toArray, List.set_cons_zero, List.set_cons_succ]
      refine anyH_val (i := 9) (by kernel_rfl) rfl (some 23) rfl rfl (ex_append (s := .tmp 18) (x := .tmp 22) (t := 89) (u := vw) (v := .slice (some ⟨w.heap.size + 1, 0, none⟩) 1 1) rfl rfl rfl hap) hS3 ?_
      simp only [Act.put, List.setIfInBounds_toArray, List.set_cons_zero, List.set_cons_succ]
      refine anyH_val (i := 10) (v := .pointer (some ⟨p, 0, none⟩)) (w' := w3) (by kernel_rfl) rfl (some 24) rfl rfl (by kernel_rfl) hS3 ?_
      simp only [Act.put, List.setIfInBounds_toArray, List.set_cons_zero, List.set_cons_succ]
      refine anyH_val (i := 11) (v := .pointer (some ⟨p, 1, none⟩)) (w' := w3) (by kernel_rfl) rfl (some 25) rfl rfl (by kernel_rfl) hS3 ?_
      simp only [Act.put, List.setIfInBounds_toArray, List.set_cons_zero, List.set_cons_succ]
      refine anyH_skip (i := 12) (by kernel_rfl) rfl none rfl rfl (ex_store (ty := 89) (x := .tmp 25) (y := .tmp 23) (u := v') (p := ⟨p, 1, none⟩) rfl rfl rfl hst) hS4 ?_
      exact wpAnyH_done (by kernel_rfl) ⟨rfl, v', hfin, rfl⟩ _
  case fin =>
    rintro a w2 ⟨v', hfin, rfl⟩
    have HF := hide hfin
    clear hfin
    go_wp2_with fail
    go_ret
    exact ⟨rfl, HF.out⟩
theorem write_bad (base p : Nat) (d : Dv) (vl vw : Value) (i : Int) (s : Sec) (w : World) (h : IsD base p d vl vw w) (hi : wrongI d.las.length i = 2) :
    Calls Try.prog 31 #[.pointer (some ⟨p, 0, none⟩), .int .i64 i, .agg (secA s)] w fun e w' => e = .returned (.int .i64 2) ∧ Below w.heap.size w w' := by
  obtain ⟨W1, hW1⟩ : ∃ W1, w.alloc (.cells (secA s) 59) = W1 := ⟨_, rfl⟩
  have hB1 : Below w.heap.size w W1 := by rw [← hW1]; exact (Below.refl _ w).alloc (Nat.le_refl _) _
  have HC := hide (wrong_any base p d vl vw i W1 (h.below hB1))
  have HB := hide hB1
  clear h hB1
  go_enter Try.func31, Try.ntmps31
  go_wp2_with (first | (refine l_val rfl _ (ex_box (ty := 59) rfl rfl (run_box_long _ (secA s) w)) ?_; rw [hW1]) | (go_at_call 52; refine HC.out.mono ?_; rintro e w' ⟨rfl, rfl⟩; rw [hi]))
  go_ret
  exact ⟨rfl, HB.out⟩
theorem write_nil (i : Int) (s : Sec) (w : World) : Calls Try.prog 31 #[.pointer none, .int .i64 i, .agg (secA s)] w fun e w' => e = .returned (.int .i64 1) ∧ Below w.heap.size w w' := by
  obtain ⟨W1, hW1⟩ : ∃ W1, w.alloc (.cells (secA s) 59) = W1 := ⟨_, rfl⟩
  have hB1 : Below w.heap.size w W1 := by rw [← hW1]; exact (Below.refl _ w).alloc (Nat.le_refl _) _
  have HC := hide (wrong_nil i W1)
  have HB := hide hB1
  clear hB1
  go_enter Try.func31, Try.ntmps31
  go_wp2_with (first | (refine l_val rfl _ (ex_box (ty := 59) rfl rfl (run_box_long _ (secA s) w)) ?_; rw [hW1]) | (go_at_call 52; refine HC.out.mono ?_; rintro e w' ⟨rfl, rfl⟩))
  go_ret
  exact ⟨rfl, HB.out⟩
set_option maxRecDepth 100000 in
theorem read_nil (i : Int) (w : World) :
    Calls Try.prog 36 #[.pointer none, .int .i64 i] w fun e w' => e = .returned (.tuple #[.agg (secA sec0), .int .i64 1]) ∧ Below w.heap.size w w' := by
  obtain ⟨W1, hW1, f0, f1, z1, hB1⟩ := two_new w (.cells #[.int .i64 i] 3) (.cells (secA sec0) 59)
  obtain ⟨c0, _⟩ := cell1 f0
  obtain ⟨W2, s1, s2, s3, s4, s5⟩ := run_store_sec (s' := sec0) infoSecD f1 rfl rfl
  have HC := hide (wrong_nil i W1)
  have HS := hide s1
  have HF := hide (hB1.trans (s5.mono (by omega)))
  clear f0 f1 s1 s3 s4 s5 hB1
  go_enter Try.func36, Try.ntmps36
  go_wp2_with (first | (refine l_alloc _ infoSecD rfl rfl ?_; rw [show (Lib.byteCells sec0).toArray = secA sec0 from rfl, hW1]) | (go_at_call 52; refine HC.out.mono ?_; rintro e w' ⟨rfl, rfl⟩) | (refine l_val rfl (.agg (secA sec0)) (by kernel_rfl) ?_) | (refine l_store _ HS.out rfl rfl rfl rfl ?_))
  exact bodyPost_ret (results_sec rfl infoSecD undSecD rfl rfl rfl rfl s2) rfl ⟨rfl, HF.out⟩
end Go.Proofs.Ytfknjmfkkaoggaa
