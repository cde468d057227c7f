/- The document's device: Write, Sync, Crash. -/
import Derived.Test.YtdlejcdmjdljfaaD9
namespace Go.Proofs.Ytdlejcdmjdljfaa
open Go.RowKit Go.Shelf

theorem hp_lt {w : World} {b : Nat} {o : Obj} (h : w.heap[b]? = some o) : b < w.heap.size := (Array.getElem?_eq_some_iff.1 h).1
theorem stepE (k : Nat) (X : World) (hk : k ≤ X.heap.size) : ∃ Y : World, Y.ownsRow k 75 65 (.slice (some ⟨X.heap.size, 0, none⟩) 0 0) 0 [] ∧ (Instr.buildSlice 70 0 #[]).run Try.prog X = .ok (.slice (some ⟨X.heap.size, 0, none⟩) 0 0) Y ∧ (∀ j, j < X.heap.size → Y.heap[j]? = X.heap[j]?) ∧ Below X.heap.size X Y :=
  ⟨_, own_empty X k 75 65 hk, run_none Try.underlying70 infoWrR X, fun j hj => Below.heap_alloc X _ j hj, (Below.refl _ X).alloc (Nat.le_refl _) _⟩
theorem stepN (i : Nat) (s : Sec) (hs : s.length = 64) (X : World) : ∃ Y : World, Y.heap[X.heap.size]? = some (.cells (wrC1 (i, s)).toArray 75) ∧ (Instr.buildSlice 70 1 #[(0, .agg (wrC1 (i, s)).toArray)]).run Try.prog X = .ok (.slice (some ⟨X.heap.size, 0, none⟩) 1 1) Y ∧ (∀ j, j < X.heap.size → Y.heap[j]? = X.heap[j]?) ∧ Below X.heap.size X Y :=
  ⟨_, World.alloc_heap_new X _, run_one Try.underlying70 infoWrR (by simp [wrC1, byteCells_len, sec0]) (by omega) (by omega) (wrC1 (i, s)).toArray (by simp [wrC1, byteCells_len, hs]) X, fun j hj => Below.heap_alloc X _ j hj, (Below.refl _ X).alloc (Nat.le_refl _) _⟩
theorem stepV (base k bE : Nat) (d : Dv) (vw : Value) (X : World) (hr : X.ownsRow base 75 65 vw d.wr.length (wrC d.wr)) (hd : DvOk d) (hE : X.ownsRow k 75 65 (.slice (some ⟨bE, 0, none⟩) 0 0) 0 []) (hk : k ≤ X.heap.size) :
    ∃ v Y, (Builtin.append_ #[70, 70] 70 #[.slice (some ⟨bE, 0, none⟩) 0 0, vw]).run Try.prog X = .ok v Y ∧ Y.ownsRow k 75 65 v d.wr.length (wrC d.wr) ∧ (∀ j, j < X.heap.size → j ≠ bE → Y.heap[j]? = X.heap[j]?) ∧ Below k X Y := by
  obtain ⟨ti, t1, t2, t3, t4⟩ := infos infoWrR
  have hfew := hd.few
  obtain ⟨hl, ⟨h2, h3⟩ | ⟨g, cap, cur, h2, _⟩⟩ := id hr
  · have hx : wrC d.wr = [] := by
      have : (wrC d.wr).length = 0 := by rw [hl, h3]
      exact List.eq_nil_of_length_eq_zero this
    rw [h2, h3, hx]
    exact ⟨_, X, run_append_owned_none (P := Try.prog) X k 70 70 75 ti 65 Try.underlying70 t1 _ 0 [] hE, hE, fun _ _ _ => rfl, Below.refl _ _⟩
  · rw [h2] at hr ⊢
    obtain ⟨v', w', hap, y1, y2, _, y4⟩ := run_append_own_at (P := Try.prog) X k 70 70 75 ti _ 65 72 Try.underlying70 t1 t2 t3 t4 (by simp [Value.cells, wrC1, byteCells_len, sec0]) (by omega) (.slice (some ⟨bE, 0, none⟩) 0 0) 0 [] hE ⟨g, 0, none⟩ d.wr.length cap (wrC d.wr) hl (own_cells hr) (wrs_one d.wr) (by unfold maxLen; omega) (by omega) hk
    refine ⟨v', w', hap, by simpa using y1, fun j hj hn => y2.block j hj (fun e => by cases e; exact hn rfl), (Below.refl _ X).grown y2 hk (fun r e => by cases e; exact own_base hE bE rfl)⟩
theorem stepF (base p : Nat) (d : Dv) (vl vw : Value) (i : Nat) (s : Sec) (w w' X : World) (bN : Nat) (v : Value) (h : IsR base p d vl vw w) (_hd : DvOk d) (hb : base ≤ w.heap.size) (hs : s.length = 64) (hf : d.wr.length < 1000000) (hB1 : Below w.heap.size w w') (f1 : w'.heap[w.heap.size]? = some (.cells (secA s) 53)) (hB : Below w'.heap.size w' X) (hV : X.ownsRow w'.heap.size 75 65 v d.wr.length (wrC d.wr)) (hN : X.heap[bN]? = some (.cells (wrC1 (i, s)).toArray 75)) :
    ∃ v' Z, (Builtin.append_ #[70, 70] 70 #[v, .slice (some ⟨bN, 0, none⟩) 1 1]).run Try.prog X = .ok v' Z ∧ Z.heap[w.heap.size]? = some (.cells (secA s) 53) ∧ (Instr.storeAt 70 (.pointer (some ⟨p, 1, none⟩)) v').run Try.prog Z = .ok () (Z.setCell ⟨p, 1, none⟩ v') ∧ ToR base p vl vw (dvWrite d i s) w (Z.setCell ⟨p, 1, none⟩ v') ∧ (Z.setCell ⟨p, 1, none⟩ v').heap[w.heap.size]? = some (.cells (secA s) 53) := by
  obtain ⟨ti, t1, t2, t3, t4⟩ := infos infoWrR
  have hww : w.heap.size < w'.heap.size := hp_lt f1
  have hpl : p < w.heap.size := hp_lt h.here
  obtain ⟨v', Z, hap, y1, y2, _, y4⟩ := run_append_own_at (P := Try.prog) X w'.heap.size 70 70 75 ti _ 65 72 Try.underlying70 t1 t2 t3 t4 (by simp [Value.cells, wrC1, byteCells_len, sec0]) (by omega) v d.wr.length (wrC d.wr) hV ⟨bN, 0, none⟩ 1 1 (wrC1 (i, s)) (by simp [wrC1, byteCells_len, hs]) (list_cells hN) (wr_mem1 (i, s)) (by unfold maxLen; omega) (by omega) hB.size
  have hBw : Below w.heap.size w X := hB1.trans (hB.mono (by omega))
  have hvr : ∀ r, v.ownBlock = some r → w'.heap.size ≤ r := fun r e => own_base hV r e
  have hkeep : ∀ j, j < w'.heap.size → Z.heap[j]? = X.heap[j]? := fun j hj => y2.block j (Nat.lt_of_lt_of_le hj hB.size) (fun e => by have := hvr j e.symm; omega)
  have hSZ : Z.heap[w.heap.size]? = some (.cells (secA s) 53) := (hkeep _ hww).trans ((hB.block _ hww).trans f1)
  have hpZ : Z.heap[p]? = some (.cells #[vl, vw] 72) := (hkeep p (by omega)).trans ((hB.block p (by omega)).trans ((hB1.block p hpl).trans h.here))
  refine ⟨v', Z, hap, hSZ, ?_, ?_, (Below.heap_setCell _ _ _ _ (by show w.heap.size ≠ p; omega)).trans hSZ⟩
  · obtain ⟨ga, gc, rfl⟩ := own_shape y1
    have c1 : Z.cell? ⟨p, 1, none⟩ = some vw := by simp [World.cell?, hpZ]
    have c2 : Z.frozen? ⟨p, 1, none⟩ = false := by simp [World.frozen?, hpZ]
    simp [Instr.storeAt, Instr.sureAddr, storeVar, c1, c2, go_sem, Value.cells]
  · exact wrote h (by decide) (by decide) (by decide) hb hBw (own_less y1 (by omega)) y2 (fun r e => .inr (by have := hvr r e; omega)) (fun g e => by
      rcases y4 with k | k
      · exact .inr (by have := hvr g (k ▸ e); omega)
      · rw [k] at e
        cases e
        exact .inr hBw.size)

set_option maxRecDepth 100000 in
set_option maxHeartbeats 4000000 in
theorem rwrite_any (base p : Nat) (d : Dv) (vl vw : Value) (i : Nat) (s : Sec) (w : World) (h : IsR base p d vl vw w) (hd : DvOk d) (hb : base ≤ w.heap.size) (hi : i < d.las.length) (hs : s.length = 64) (hf : d.wr.length < 1000000) :
    Calls Try.prog 37 #[.pointer (some ⟨p, 0, none⟩), .int .i64 i, .agg (secA s)] w fun e w' => e = .returned (.int .i64 0) ∧ ToR base p vl vw (dvWrite d i s) w w' := by
  obtain ⟨w', hW1⟩ : ∃ w', w.alloc (.cells (secA s) 53) = w' := ⟨_, rfl⟩
  have z1 : w'.heap.size = w.heap.size + 1 := by rw [← hW1]; simp
  have f1 : w'.heap[w.heap.size]? = some (.cells (secA s) 53) := by rw [← hW1]; exact World.alloc_heap_new w _
  have hB1 : Below w.heap.size w w' := by rw [← hW1]; exact (Below.refl _ w).alloc (Nat.le_refl _) _
  have hD1 := h.below hB1
  obtain ⟨q0, q1, _⟩ := hD1.cells
  obtain ⟨ga, gc, rfl⟩ := own_shape hD1.las
  have h0 : ¬ ((i : Int) < 0) := by omega
  have h2 : ¬ ((d.las.length : Int) ≤ i) := by omega
  have HH := hide (And.intro h (And.intro hd (And.intro hB1 (And.intro hD1 f1))))
  clear h hd hB1 hD1 f1
  go_enter Try.func37, Try.ntmps37
  go_wp2_with (refine l_val rfl _ (ex_box (ty := 53) rfl rfl (run_box_long _ (secA s) w)) ?_; rw [hW1])
  generalize hvl : Value.slice ga d.las.length gc = vl at *
  obtain ⟨h, hd, hB1, hD1, f1⟩ := HH.out
  refine region_rel (S := fun w0 => w0.heap[w.heap.size]? = some (.cells (secA s) 53)) (fun a w2 => ∃ x1 x2 x3 x4, ToR base p vl vw (dvWrite d i s) w w2 ∧ a = { tmps := #[.pointer (some ⟨p, 0, none⟩), .int .i64 i, .agg (secA s), undef, undef, .pointer (some ⟨w.heap.size, 0, none⟩), .int .i64 0, .bool false, .pointer (some ⟨p, 0, none⟩), .bool false, .bool false, .int .i64 i, .bool false, .bool false, .int .i64 i, .pointer (some ⟨p, 0, none⟩), .pointer (some ⟨p, 0, none⟩), .pointer (some ⟨p, 0, none⟩), vl, .int .i64 d.las.length, .bool false, .bool false, .pointer (some ⟨p, 0, none⟩), x1, .pointer (some ⟨p, 0, none⟩), .pointer (some ⟨p, 0, none⟩), .pointer (some ⟨p, 1, none⟩), vw, x2, .int .i64 i, .agg (secA s), .agg (wrC1 (i, s)).toArray, x3, x4, .pointer (some ⟨p, 0, none⟩), .pointer (some ⟨p, 1, none⟩)], defers := [] }) (by kernel_rfl) ?any ?fin
  case any =>
    have hS0 : w'.drew.heap[w.heap.size]? = some (.cells (secA s) 53) := f1
    have hSof : ∀ X : World, Below w'.heap.size w' X → X.heap[w.heap.size]? = some (.cells (secA s) 53) := fun X hX => (hX.block _ (by omega)).trans f1
    have hdev : ∀ X : World, Below w'.heap.size w' X → IsR base p d vl vw X := fun X hX => hD1.below hX
    have hcell : ∀ X : World, Below w'.heap.size w' X → X.cell? ⟨p, 1, none⟩ = some vw := fun X hX => (hdev X hX).cells.2.1
    clear h0 h2 q0 q1 HH
    refine anyH_take (i := 0) (v := .pointer (some ⟨p, 0, none⟩)) rfl (some 22) rfl (by kernel_rfl) (by kernel_rfl) (by kernel_rfl) (fun _ _ _ h => by cases h.1) rfl (fun w0 hw0 => rfl) hS0 ?_
    simp only [Act.put, List.setIfInBounds_toArray, List.set_cons_zero, List.set_cons_succ]
    refine anyH_take (i := 2) (v := .pointer (some ⟨p, 0, none⟩)) rfl (some 24) rfl (by kernel_rfl) (by kernel_rfl) (by kernel_rfl) (fun _ _ _ h => by cases h.1) rfl (fun w0 hw0 => rfl) hS0 ?_
    simp only [Act.put, List.setIfInBounds_toArray, List.set_cons_zero, List.set_cons_succ]
    refine anyH_take (i := 3) (v := .pointer (some ⟨p, 0, none⟩)) rfl (some 25) rfl (by kernel_rfl) (by kernel_rfl) (by kernel_rfl) (fun _ _ _ h => by cases h.1) rfl (fun w0 hw0 => by kernel_rfl) hS0 ?_
    simp only [Act.put, List.setIfInBounds_toArray, List.set_cons_zero, List.set_cons_succ]
    refine anyH_take (i := 4) (v := .pointer (some ⟨p, 1, none⟩)) rfl (some 26) rfl (by kernel_rfl) (by kernel_rfl) (by kernel_rfl) (fun _ _ _ h => by cases h.1) rfl (fun w0 hw0 => by kernel_rfl) hS0 ?_
    simp only [Act.put, List.setIfInBounds_toArray, List.set_cons_zero, List.set_cons_succ]
    refine anyH_take (i := 7) (v := .int .i64 i) rfl (some 29) rfl (by kernel_rfl) (by kernel_rfl) (by kernel_rfl) (fun _ _ _ h => by cases h.1) rfl (fun w0 hw0 => rfl) hS0 ?_
    simp only [Act.put, List.setIfInBounds_toArray, List.set_cons_zero, List.set_cons_succ]
    refine anyH_take (i := 8) (v := .agg (secA s)) rfl (some 30) rfl (by kernel_rfl) (by kernel_rfl) (by kernel_rfl) (fun _ _ _ h => by cases h.1) rfl (fun w0 hw0 => ex_load rfl rfl (run_load_row (P := Try.prog) (cs := secA s) infoSecR undSecR rfl (by rw [secA_size, hs]) hw0)) hS0 ?_
    simp only [Act.put, List.setIfInBounds_toArray, List.set_cons_zero, List.set_cons_succ]
    refine anyH_take (i := 9) (v := .agg (wrC1 (i, s)).toArray) rfl (some 31) rfl (by kernel_rfl) (by kernel_rfl) (by kernel_rfl) (fun _ _ _ h => by cases h.1) rfl (fun w0 hw0 => ex_build (us := #[(0, .int .i64 i), (1, .agg (secA s))]) rfl (by simp [Act.eval]) (run_build_wrR i s hs w0)) hS0 ?_
    simp only [Act.put, List.setIfInBounds_toArray, List.set_cons_zero, List.set_cons_succ]
    obtain ⟨X0, hX0⟩ : ∃ X0, w'.drew = X0 := ⟨_, rfl⟩
    have hBX0 : Below w'.heap.size w' X0 := by rw [← hX0]; exact (Below.refl _ w').drew
    rw [hX0]
    refine anyH_three (i := 1) (j := 5) (k := 10) (by kernel_rfl) ?_ ?_ ?_
    · have hk1 : w'.heap.size ≤ X0.heap.size := hBX0.size
      obtain ⟨Y1, hEY1, hrY1, halY1, hblY1⟩ := stepE w'.heap.size X0 hk1
      have hBY1 := hBX0.trans (hblY1.mono hk1)
      refine op_val (v := .slice (some ⟨X0.heap.size, 0, none⟩) 0 0) (w' := Y1) rfl (some 23) rfl rfl (ex_slice (us := #[]) rfl (by simp) hrY1) ⟨hSof _ hBY1, ?_⟩
      simp only [Act.put, List.setIfInBounds_toArray, List.set_cons_zero, List.set_cons_succ]
      refine anyH_two (i := 5) (j := 10) (by kernel_rfl) ?_ ?_
      · refine op_val (v := vw) (w' := Y1) rfl (some 27) rfl rfl (ex_load (ty := 70) rfl rfl (run_load_cell Try.underlying70 rfl (hcell _ hBY1))) ⟨hSof _ hBY1, ?_⟩
        simp only [Act.put, List.setIfInBounds_toArray, List.set_cons_zero, List.set_cons_succ]
        refine anyH_two (i := 6) (j := 10) (by kernel_rfl) ?_ ?_
        · have hk6 : w'.heap.size ≤ Y1.heap.size := hBY1.size
          obtain ⟨v6, Y6, hrY6, hVY6, halY6, hblY6⟩ := stepV base w'.heap.size (X0.heap.size) d vw Y1 (hdev _ hBY1).wr hd hEY1 hk6
          have hBY6 := hBY1.trans hblY6
          refine op_val (v := v6) (w' := Y6) rfl (some 28) rfl rfl (ex_append (s := .tmp 23) (x := .tmp 27) (t := 70) rfl rfl rfl hrY6) ⟨hSof _ hBY6, ?_⟩
          simp only [Act.put, List.setIfInBounds_toArray, List.set_cons_zero, List.set_cons_succ]
          have hk8 : w'.heap.size ≤ Y6.heap.size := hBY6.size
          obtain ⟨Y8, hNY8, hrY8, halY8, hblY8⟩ := stepN i s hs Y6
          have hBY8 := hBY6.trans (hblY8.mono hk8)
          have hVY8 := own_same (B := Y8) hVY6 (fun g e => halY8 g (own_lt hVY6 g e))
          refine anyH_val (i := 10) (v := .slice (some ⟨Y6.heap.size, 0, none⟩) 1 1) (w' := Y8) (by kernel_rfl) rfl (some 32) rfl rfl (ex_slice (us := #[(0, .agg (wrC1 (i, s)).toArray)]) rfl (by simp [Act.eval]) hrY8) (hSof _ hBY8) ?_
          simp only [Act.put, List.setIfInBounds_toArray, List.set_cons_zero, List.set_cons_succ]
          obtain ⟨v', Z, hr, hSZ, hst, hto, hSf⟩ := stepF base p d vl vw i s w w' Y8 (Y6.heap.size) v6 h hd hb hs hf hB1 f1 hBY8 hVY8 hNY8
          refine anyH_val (i := 11) (by kernel_rfl) rfl (some 33) rfl rfl (ex_append (s := .tmp 28) (x := .tmp 32) (t := 70) rfl rfl rfl hr) hSZ ?_
          simp only [Act.put, List.setIfInBounds_toArray, List.set_cons_zero, List.set_cons_succ]
          refine anyH_val (i := 12) (v := .pointer (some ⟨p, 0, none⟩)) (w' := Z) (by kernel_rfl) rfl (some 34) rfl rfl (by kernel_rfl) hSZ ?_
          simp only [Act.put, List.setIfInBounds_toArray, List.set_cons_zero, List.set_cons_succ]
          refine anyH_val (i := 13) (v := .pointer (some ⟨p, 1, none⟩)) (w' := Z) (by kernel_rfl) rfl (some 35) rfl rfl (by kernel_rfl) hSZ ?_
          simp only [Act.put, List.setIfInBounds_toArray, List.set_cons_zero, List.set_cons_succ]
          refine anyH_skip (i := 14) (by kernel_rfl) rfl none rfl rfl (ex_store (ty := 70) (x := .tmp 35) (y := .tmp 33) (u := v') (p := ⟨p, 1, none⟩) rfl rfl rfl hst) hSf ?_
          exact wpAnyH_done (by kernel_rfl) ⟨rfl, _, _, _, _, hto, rfl⟩ _
        · have hk7 : w'.heap.size ≤ Y1.heap.size := hBY1.size
          obtain ⟨Y7, hNY7, hrY7, halY7, hblY7⟩ := stepN i s hs Y1
          have hBY7 := hBY1.trans (hblY7.mono hk7)
          have hEY7 := own_same (B := Y7) hEY1 (fun g e => halY7 g (own_lt hEY1 g e))
          have hneY7 : X0.heap.size ≠ Y1.heap.size := fun e => by have := own_lt hEY1 (X0.heap.size) rfl; omega
          refine op_val (v := .slice (some ⟨Y1.heap.size, 0, none⟩) 1 1) (w' := Y7) rfl (some 32) rfl rfl (ex_slice (us := #[(0, .agg (wrC1 (i, s)).toArray)]) rfl (by simp [Act.eval]) hrY7) ⟨hSof _ hBY7, ?_⟩
          simp only [Act.put, List.setIfInBounds_toArray, List.set_cons_zero, List.set_cons_succ]
          have hk9 : w'.heap.size ≤ Y7.heap.size := hBY7.size
          obtain ⟨v9, Y9, hrY9, hVY9, halY9, hblY9⟩ := stepV base w'.heap.size (X0.heap.size) d vw Y7 (hdev _ hBY7).wr hd hEY7 hk9
          have hBY9 := hBY7.trans hblY9
          have hNY9 := (halY9 _ (hp_lt hNY7) (Ne.symm hneY7)).trans hNY7
          refine anyH_val (i := 6) (v := v9) (w' := Y9) (by kernel_rfl) rfl (some 28) rfl rfl (ex_append (s := .tmp 23) (x := .tmp 27) (t := 70) rfl rfl rfl hrY9) (hSof _ hBY9) ?_
          simp only [Act.put, List.setIfInBounds_toArray, List.set_cons_zero, List.set_cons_succ]
          obtain ⟨v', Z, hr, hSZ, hst, hto, hSf⟩ := stepF base p d vl vw i s w w' Y9 (Y1.heap.size) v9 h hd hb hs hf hB1 f1 hBY9 hVY9 hNY9
          refine anyH_val (i := 11) (by kernel_rfl) rfl (some 33) rfl rfl (ex_append (s := .tmp 28) (x := .tmp 32) (t := 70) rfl rfl rfl hr) hSZ ?_
          simp only [Act.put, List.setIfInBounds_toArray, List.set_cons_zero, List.set_cons_succ]
          refine anyH_val (i := 12) (v := .pointer (some ⟨p, 0, none⟩)) (w' := Z) (by kernel_rfl) rfl (some 34) rfl rfl (by kernel_rfl) hSZ ?_
          simp only [Act.put, List.setIfInBounds_toArray, List.set_cons_zero, List.set_cons_succ]
          refine anyH_val (i := 13) (v := .pointer (some ⟨p, 1, none⟩)) (w' := Z) (by kernel_rfl) rfl (some 35) rfl rfl (by kernel_rfl) hSZ ?_
          simp only [Act.put, List.setIfInBounds_toArray, List.set_cons_zero, List.set_cons_succ]
          refine anyH_skip (i := 14) (by kernel_rfl) rfl none rfl rfl (ex_store (ty := 70) (x := .tmp 35) (y := .tmp 33) (u := v') (p := ⟨p, 1, none⟩) rfl rfl rfl hst) hSf ?_
          exact wpAnyH_done (by kernel_rfl) ⟨rfl, _, _, _, _, hto, rfl⟩ _
      · have hk5 : w'.heap.size ≤ Y1.heap.size := hBY1.size
        obtain ⟨Y5, hNY5, hrY5, halY5, hblY5⟩ := stepN i s hs Y1
        have hBY5 := hBY1.trans (hblY5.mono hk5)
        have hEY5 := own_same (B := Y5) hEY1 (fun g e => halY5 g (own_lt hEY1 g e))
        have hneY5 : X0.heap.size ≠ Y1.heap.size := fun e => by have := own_lt hEY1 (X0.heap.size) rfl; omega
        refine op_val (v := .slice (some ⟨Y1.heap.size, 0, none⟩) 1 1) (w' := Y5) rfl (some 32) rfl rfl (ex_slice (us := #[(0, .agg (wrC1 (i, s)).toArray)]) rfl (by simp [Act.eval]) hrY5) ⟨hSof _ hBY5, ?_⟩
        simp only [Act.put, List.setIfInBounds_toArray, List.set_cons_zero, List.set_cons_succ]
        refine anyH_val (i := 5) (v := vw) (w' := Y5) (by kernel_rfl) rfl (some 27) rfl rfl (ex_load (ty := 70) rfl rfl (run_load_cell Try.underlying70 rfl (hcell _ hBY5))) (hSof _ hBY5) ?_
        simp only [Act.put, List.setIfInBounds_toArray, List.set_cons_zero, List.set_cons_succ]
        have hk11 : w'.heap.size ≤ Y5.heap.size := hBY5.size
        obtain ⟨v11, Y11, hrY11, hVY11, halY11, hblY11⟩ := stepV base w'.heap.size (X0.heap.size) d vw Y5 (hdev _ hBY5).wr hd hEY5 hk11
        have hBY11 := hBY5.trans hblY11
        have hNY11 := (halY11 _ (hp_lt hNY5) (Ne.symm hneY5)).trans hNY5
        refine anyH_val (i := 6) (v := v11) (w' := Y11) (by kernel_rfl) rfl (some 28) rfl rfl (ex_append (s := .tmp 23) (x := .tmp 27) (t := 70) rfl rfl rfl hrY11) (hSof _ hBY11) ?_
        simp only [Act.put, List.setIfInBounds_toArray, List.set_cons_zero, List.set_cons_succ]
        obtain ⟨v', Z, hr, hSZ, hst, hto, hSf⟩ := stepF base p d vl vw i s w w' Y11 (Y1.heap.size) v11 h hd hb hs hf hB1 f1 hBY11 hVY11 hNY11
        refine anyH_val (i := 11) (by kernel_rfl) rfl (some 33) rfl rfl (ex_append (s := .tmp 28) (x := .tmp 32) (t := 70) rfl rfl rfl hr) hSZ ?_
        simp only [Act.put, List.setIfInBounds_toArray, List.set_cons_zero, List.set_cons_succ]
        refine anyH_val (i := 12) (v := .pointer (some ⟨p, 0, none⟩)) (w' := Z) (by kernel_rfl) rfl (some 34) rfl rfl (by kernel_rfl) hSZ ?_
        simp only [Act.put, List.setIfInBounds_toArray, List.set_cons_zero, List.set_cons_succ]
        refine anyH_val (i := 13) (v := .pointer (some ⟨p, 1, none⟩)) (w' := Z) (by kernel_rfl) rfl (some 35) rfl rfl (by kernel_rfl) hSZ ?_
        simp only [Act.put, List.setIfInBounds_toArray, List.set_cons_zero, List.set_cons_succ]
        refine anyH_skip (i := 14) (by kernel_rfl) rfl none rfl rfl (ex_store (ty := 70) (x := .tmp 35) (y := .tmp 33) (u := v') (p := ⟨p, 1, none⟩) rfl rfl rfl hst) hSf ?_
        exact wpAnyH_done (by kernel_rfl) ⟨rfl, _, _, _, _, hto, rfl⟩ _
    · refine op_val (v := vw) (w' := X0) rfl (some 27) rfl rfl (ex_load (ty := 70) rfl rfl (run_load_cell Try.underlying70 rfl (hcell _ hBX0))) ⟨hSof _ hBX0, ?_⟩
      simp only [Act.put, List.setIfInBounds_toArray, List.set_cons_zero, List.set_cons_succ]
      refine anyH_two (i := 1) (j := 10) (by kernel_rfl) ?_ ?_
      · have hk12 : w'.heap.size ≤ X0.heap.size := hBX0.size
        obtain ⟨Y12, hEY12, hrY12, halY12, hblY12⟩ := stepE w'.heap.size X0 hk12
        have hBY12 := hBX0.trans (hblY12.mono hk12)
        refine op_val (v := .slice (some ⟨X0.heap.size, 0, none⟩) 0 0) (w' := Y12) rfl (some 23) rfl rfl (ex_slice (us := #[]) rfl (by simp) hrY12) ⟨hSof _ hBY12, ?_⟩
        simp only [Act.put, List.setIfInBounds_toArray, List.set_cons_zero, List.set_cons_succ]
        refine anyH_two (i := 6) (j := 10) (by kernel_rfl) ?_ ?_
        · have hk14 : w'.heap.size ≤ Y12.heap.size := hBY12.size
          obtain ⟨v14, Y14, hrY14, hVY14, halY14, hblY14⟩ := stepV base w'.heap.size (X0.heap.size) d vw Y12 (hdev _ hBY12).wr hd hEY12 hk14
          have hBY14 := hBY12.trans hblY14
          refine op_val (v := v14) (w' := Y14) rfl (some 28) rfl rfl (ex_append (s := .tmp 23) (x := .tmp 27) (t := 70) rfl rfl rfl hrY14) ⟨hSof _ hBY14, ?_⟩
          simp only [Act.put, List.setIfInBounds_toArray, List.set_cons_zero, List.set_cons_succ]
          have hk16 : w'.heap.size ≤ Y14.heap.size := hBY14.size
          obtain ⟨Y16, hNY16, hrY16, halY16, hblY16⟩ := stepN i s hs Y14
          have hBY16 := hBY14.trans (hblY16.mono hk16)
          have hVY16 := own_same (B := Y16) hVY14 (fun g e => halY16 g (own_lt hVY14 g e))
          refine anyH_val (i := 10) (v := .slice (some ⟨Y14.heap.size, 0, none⟩) 1 1) (w' := Y16) (by kernel_rfl) rfl (some 32) rfl rfl (ex_slice (us := #[(0, .agg (wrC1 (i, s)).toArray)]) rfl (by simp [Act.eval]) hrY16) (hSof _ hBY16) ?_
          simp only [Act.put, List.setIfInBounds_toArray, List.set_cons_zero, List.set_cons_succ]
          obtain ⟨v', Z, hr, hSZ, hst, hto, hSf⟩ := stepF base p d vl vw i s w w' Y16 (Y14.heap.size) v14 h hd hb hs hf hB1 f1 hBY16 hVY16 hNY16
          refine anyH_val (i := 11) (by kernel_rfl) rfl (some 33) rfl rfl (ex_append (s := .tmp 28) (x := .tmp 32) (t := 70) rfl rfl rfl hr) hSZ ?_
          simp only [Act.put, List.setIfInBounds_toArray, List.set_cons_zero, List.set_cons_succ]
          refine anyH_val (i := 12) (v := .pointer (some ⟨p, 0, none⟩)) (w' := Z) (by kernel_rfl) rfl (some 34) rfl rfl (by kernel_rfl) hSZ ?_
          simp only [Act.put, List.setIfInBounds_toArray, List.set_cons_zero, List.set_cons_succ]
          refine anyH_val (i := 13) (v := .pointer (some ⟨p, 1, none⟩)) (w' := Z) (by kernel_rfl) rfl (some 35) rfl rfl (by kernel_rfl) hSZ ?_
          simp only [Act.put, List.setIfInBounds_toArray, List.set_cons_zero, List.set_cons_succ]
          refine anyH_skip (i := 14) (by kernel_rfl) rfl none rfl rfl (ex_store (ty := 70) (x := .tmp 35) (y := .tmp 33) (u := v') (p := ⟨p, 1, none⟩) rfl rfl rfl hst) hSf ?_
          exact wpAnyH_done (by kernel_rfl) ⟨rfl, _, _, _, _, hto, rfl⟩ _
        · have hk15 : w'.heap.size ≤ Y12.heap.size := hBY12.size
          obtain ⟨Y15, hNY15, hrY15, halY15, hblY15⟩ := stepN i s hs Y12
          have hBY15 := hBY12.trans (hblY15.mono hk15)
          have hEY15 := own_same (B := Y15) hEY12 (fun g e => halY15 g (own_lt hEY12 g e))
          have hneY15 : X0.heap.size ≠ Y12.heap.size := fun e => by have := own_lt hEY12 (X0.heap.size) rfl; omega
          refine op_val (v := .slice (some ⟨Y12.heap.size, 0, none⟩) 1 1) (w' := Y15) rfl (some 32) rfl rfl (ex_slice (us := #[(0, .agg (wrC1 (i, s)).toArray)]) rfl (by simp [Act.eval]) hrY15) ⟨hSof _ hBY15, ?_⟩
          simp only [Act.put, List.setIfInBounds_toArray, List.set_cons_zero, List.set_cons_succ]
          have hk17 : w'.heap.size ≤ Y15.heap.size := hBY15.size
          obtain ⟨v17, Y17, hrY17, hVY17, halY17, hblY17⟩ := stepV base w'.heap.size (X0.heap.size) d vw Y15 (hdev _ hBY15).wr hd hEY15 hk17
          have hBY17 := hBY15.trans hblY17
          have hNY17 := (halY17 _ (hp_lt hNY15) (Ne.symm hneY15)).trans hNY15
          refine anyH_val (i := 6) (v := v17) (w' := Y17) (by kernel_rfl) rfl (some 28) rfl rfl (ex_append (s := .tmp 23) (x := .tmp 27) (t := 70) rfl rfl rfl hrY17) (hSof _ hBY17) ?_
          simp only [Act.put, List.setIfInBounds_toArray, List.set_cons_zero, List.set_cons_succ]
          obtain ⟨v', Z, hr, hSZ, hst, hto, hSf⟩ := stepF base p d vl vw i s w w' Y17 (Y12.heap.size) v17 h hd hb hs hf hB1 f1 hBY17 hVY17 hNY17
          refine anyH_val (i := 11) (by kernel_rfl) rfl (some 33) rfl rfl (ex_append (s := .tmp 28) (x := .tmp 32) (t := 70) rfl rfl rfl hr) hSZ ?_
          simp only [Act.put, List.setIfInBounds_toArray, List.set_cons_zero, List.set_cons_succ]
          refine anyH_val (i := 12) (v := .pointer (some ⟨p, 0, none⟩)) (w' := Z) (by kernel_rfl) rfl (some 34) rfl rfl (by kernel_rfl) hSZ ?_
          simp only [Act.put, List.setIfInBounds_toArray, List.set_cons_zero, List.set_cons_succ]
          refine anyH_val (i := 13) (v := .pointer (some ⟨p, 1, none⟩)) (w' := Z) (by kernel_rfl) rfl (some 35) rfl rfl (by kernel_rfl) hSZ ?_
          simp only [Act.put, List.setIfInBounds_toArray, List.set_cons_zero, List.set_cons_succ]
          refine anyH_skip (i := 14) (by kernel_rfl) rfl none rfl rfl (ex_store (ty := 70) (x := .tmp 35) (y := .tmp 33) (u := v') (p := ⟨p, 1, none⟩) rfl rfl rfl hst) hSf ?_
          exact wpAnyH_done (by kernel_rfl) ⟨rfl, _, _, _, _, hto, rfl⟩ _
      · have hk13 : w'.heap.size ≤ X0.heap.size := hBX0.size
        obtain ⟨Y13, hNY13, hrY13, halY13, hblY13⟩ := stepN i s hs X0
        have hBY13 := hBX0.trans (hblY13.mono hk13)
        refine op_val (v := .slice (some ⟨X0.heap.size, 0, none⟩) 1 1) (w' := Y13) rfl (some 32) rfl rfl (ex_slice (us := #[(0, .agg (wrC1 (i, s)).toArray)]) rfl (by simp [Act.eval]) hrY13) ⟨hSof _ hBY13, ?_⟩
        simp only [Act.put, List.setIfInBounds_toArray, List.set_cons_zero, List.set_cons_succ]
        have hk18 : w'.heap.size ≤ Y13.heap.size := hBY13.size
        obtain ⟨Y18, hEY18, hrY18, halY18, hblY18⟩ := stepE w'.heap.size Y13 hk18
        have hBY18 := hBY13.trans (hblY18.mono hk18)
        have hNY18 := (halY18 _ (hp_lt hNY13)).trans hNY13
        have hneY18 : Y13.heap.size ≠ X0.heap.size := fun e => by have := hp_lt hNY13; omega
        refine anyH_val (i := 1) (v := .slice (some ⟨Y13.heap.size, 0, none⟩) 0 0) (w' := Y18) (by kernel_rfl) rfl (some 23) rfl rfl (ex_slice (us := #[]) rfl (by simp) hrY18) (hSof _ hBY18) ?_
        simp only [Act.put, List.setIfInBounds_toArray, List.set_cons_zero, List.set_cons_succ]
        have hk19 : w'.heap.size ≤ Y18.heap.size := hBY18.size
        obtain ⟨v19, Y19, hrY19, hVY19, halY19, hblY19⟩ := stepV base w'.heap.size (Y13.heap.size) d vw Y18 (hdev _ hBY18).wr hd hEY18 hk19
        have hBY19 := hBY18.trans hblY19
        have hNY19 := (halY19 _ (hp_lt hNY18) (Ne.symm hneY18)).trans hNY18
        refine anyH_val (i := 6) (v := v19) (w' := Y19) (by kernel_rfl) rfl (some 28) rfl rfl (ex_append (s := .tmp 23) (x := .tmp 27) (t := 70) rfl rfl rfl hrY19) (hSof _ hBY19) ?_
        simp only [Act.put, List.setIfInBounds_toArray, List.set_cons_zero, List.set_cons_succ]
        obtain ⟨v', Z, hr, hSZ, hst, hto, hSf⟩ := stepF base p d vl vw i s w w' Y19 (X0.heap.size) v19 h hd hb hs hf hB1 f1 hBY19 hVY19 hNY19
        refine anyH_val (i := 11) (by kernel_rfl) rfl (some 33) rfl rfl (ex_append (s := .tmp 28) (x := .tmp 32) (t := 70) rfl rfl rfl hr) hSZ ?_
        simp only [Act.put, List.setIfInBounds_toArray, List.set_cons_zero, List.set_cons_succ]
        refine anyH_val (i := 12) (v := .pointer (some ⟨p, 0, none⟩)) (w' := Z) (by kernel_rfl) rfl (some 34) rfl rfl (by kernel_rfl) hSZ ?_
        simp only [Act.put, List.setIfInBounds_toArray, List.set_cons_zero, List.set_cons_succ]
        refine anyH_val (i := 13) (v := .pointer (some ⟨p, 1, none⟩)) (w' := Z) (by kernel_rfl) rfl (some 35) rfl rfl (by kernel_rfl) hSZ ?_
        simp only [Act.put, List.setIfInBounds_toArray, List.set_cons_zero, List.set_cons_succ]
        refine anyH_skip (i := 14) (by kernel_rfl) rfl none rfl rfl (ex_store (ty := 70) (x := .tmp 35) (y := .tmp 33) (u := v') (p := ⟨p, 1, none⟩) rfl rfl rfl hst) hSf ?_
        exact wpAnyH_done (by kernel_rfl) ⟨rfl, _, _, _, _, hto, rfl⟩ _
    · have hk3 : w'.heap.size ≤ X0.heap.size := hBX0.size
      obtain ⟨Y3, hNY3, hrY3, halY3, hblY3⟩ := stepN i s hs X0
      have hBY3 := hBX0.trans (hblY3.mono hk3)
      refine op_val (v := .slice (some ⟨X0.heap.size, 0, none⟩) 1 1) (w' := Y3) rfl (some 32) rfl rfl (ex_slice (us := #[(0, .agg (wrC1 (i, s)).toArray)]) rfl (by simp [Act.eval]) hrY3) ⟨hSof _ hBY3, ?_⟩
      simp only [Act.put, List.setIfInBounds_toArray, List.set_cons_zero, List.set_cons_succ]
      refine anyH_two (i := 1) (j := 5) (by kernel_rfl) ?_ ?_
      · have hk20 : w'.heap.size ≤ Y3.heap.size := hBY3.size
        obtain ⟨Y20, hEY20, hrY20, halY20, hblY20⟩ := stepE w'.heap.size Y3 hk20
        have hBY20 := hBY3.trans (hblY20.mono hk20)
        have hNY20 := (halY20 _ (hp_lt hNY3)).trans hNY3
        have hneY20 : Y3.heap.size ≠ X0.heap.size := fun e => by have := hp_lt hNY3; omega
        refine op_val (v := .slice (some ⟨Y3.heap.size, 0, none⟩) 0 0) (w' := Y20) rfl (some 23) rfl rfl (ex_slice (us := #[]) rfl (by simp) hrY20) ⟨hSof _ hBY20, ?_⟩
        simp only [Act.put, List.setIfInBounds_toArray, List.set_cons_zero, List.set_cons_succ]
        refine anyH_val (i := 5) (v := vw) (w' := Y20) (by kernel_rfl) rfl (some 27) rfl rfl (ex_load (ty := 70) rfl rfl (run_load_cell Try.underlying70 rfl (hcell _ hBY20))) (hSof _ hBY20) ?_
        simp only [Act.put, List.setIfInBounds_toArray, List.set_cons_zero, List.set_cons_succ]
        have hk23 : w'.heap.size ≤ Y20.heap.size := hBY20.size
        obtain ⟨v23, Y23, hrY23, hVY23, halY23, hblY23⟩ := stepV base w'.heap.size (Y3.heap.size) d vw Y20 (hdev _ hBY20).wr hd hEY20 hk23
        have hBY23 := hBY20.trans hblY23
        have hNY23 := (halY23 _ (hp_lt hNY20) (Ne.symm hneY20)).trans hNY20
        refine anyH_val (i := 6) (v := v23) (w' := Y23) (by kernel_rfl) rfl (some 28) rfl rfl (ex_append (s := .tmp 23) (x := .tmp 27) (t := 70) rfl rfl rfl hrY23) (hSof _ hBY23) ?_
        simp only [Act.put, List.setIfInBounds_toArray, List.set_cons_zero, List.set_cons_succ]
        obtain ⟨v', Z, hr, hSZ, hst, hto, hSf⟩ := stepF base p d vl vw i s w w' Y23 (X0.heap.size) v23 h hd hb hs hf hB1 f1 hBY23 hVY23 hNY23
        refine anyH_val (i := 11) (by kernel_rfl) rfl (some 33) rfl rfl (ex_append (s := .tmp 28) (x := .tmp 32) (t := 70) rfl rfl rfl hr) hSZ ?_
        simp only [Act.put, List.setIfInBounds_toArray, List.set_cons_zero, List.set_cons_succ]
        refine anyH_val (i := 12) (v := .pointer (some ⟨p, 0, none⟩)) (w' := Z) (by kernel_rfl) rfl (some 34) rfl rfl (by kernel_rfl) hSZ ?_
        simp only [Act.put, List.setIfInBounds_toArray, List.set_cons_zero, List.set_cons_succ]
        refine anyH_val (i := 13) (v := .pointer (some ⟨p, 1, none⟩)) (w' := Z) (by kernel_rfl) rfl (some 35) rfl rfl (by kernel_rfl) hSZ ?_
        simp only [Act.put, List.setIfInBounds_toArray, List.set_cons_zero, List.set_cons_succ]
        refine anyH_skip (i := 14) (by kernel_rfl) rfl none rfl rfl (ex_store (ty := 70) (x := .tmp 35) (y := .tmp 33) (u := v') (p := ⟨p, 1, none⟩) rfl rfl rfl hst) hSf ?_
        exact wpAnyH_done (by kernel_rfl) ⟨rfl, _, _, _, _, hto, rfl⟩ _
      · refine op_val (v := vw) (w' := Y3) rfl (some 27) rfl rfl (ex_load (ty := 70) rfl rfl (run_load_cell Try.underlying70 rfl (hcell _ hBY3))) ⟨hSof _ hBY3, ?_⟩
        simp only [Act.put, List.setIfInBounds_toArray, List.set_cons_zero, List.set_cons_succ]
        have hk24 : w'.heap.size ≤ Y3.heap.size := hBY3.size
        obtain ⟨Y24, hEY24, hrY24, halY24, hblY24⟩ := stepE w'.heap.size Y3 hk24
        have hBY24 := hBY3.trans (hblY24.mono hk24)
        have hNY24 := (halY24 _ (hp_lt hNY3)).trans hNY3
        have hneY24 : Y3.heap.size ≠ X0.heap.size := fun e => by have := hp_lt hNY3; omega
        refine anyH_val (i := 1) (v := .slice (some ⟨Y3.heap.size, 0, none⟩) 0 0) (w' := Y24) (by kernel_rfl) rfl (some 23) rfl rfl (ex_slice (us := #[]) rfl (by simp) hrY24) (hSof _ hBY24) ?_
        simp only [Act.put, List.setIfInBounds_toArray, List.set_cons_zero, List.set_cons_succ]
        have hk25 : w'.heap.size ≤ Y24.heap.size := hBY24.size
        obtain ⟨v25, Y25, hrY25, hVY25, halY25, hblY25⟩ := stepV base w'.heap.size (Y3.heap.size) d vw Y24 (hdev _ hBY24).wr hd hEY24 hk25
        have hBY25 := hBY24.trans hblY25
        have hNY25 := (halY25 _ (hp_lt hNY24) (Ne.symm hneY24)).trans hNY24
        refine anyH_val (i := 6) (v := v25) (w' := Y25) (by kernel_rfl) rfl (some 28) rfl rfl (ex_append (s := .tmp 23) (x := .tmp 27) (t := 70) rfl rfl rfl hrY25) (hSof _ hBY25) ?_
        simp only [Act.put, List.setIfInBounds_toArray, List.set_cons_zero, List.set_cons_succ]
        obtain ⟨v', Z, hr, hSZ, hst, hto, hSf⟩ := stepF base p d vl vw i s w w' Y25 (X0.heap.size) v25 h hd hb hs hf hB1 f1 hBY25 hVY25 hNY25
        refine anyH_val (i := 11) (by kernel_rfl) rfl (some 33) rfl rfl (ex_append (s := .tmp 28) (x := .tmp 32) (t := 70) rfl rfl rfl hr) hSZ ?_
        simp only [Act.put, List.setIfInBounds_toArray, List.set_cons_zero, List.set_cons_succ]
        refine anyH_val (i := 12) (v := .pointer (some ⟨p, 0, none⟩)) (w' := Z) (by kernel_rfl) rfl (some 34) rfl rfl (by kernel_rfl) hSZ ?_
        simp only [Act.put, List.setIfInBounds_toArray, List.set_cons_zero, List.set_cons_succ]
        refine anyH_val (i := 13) (v := .pointer (some ⟨p, 1, none⟩)) (w' := Z) (by kernel_rfl) rfl (some 35) rfl rfl (by kernel_rfl) hSZ ?_
        simp only [Act.put, List.setIfInBounds_toArray, List.set_cons_zero, List.set_cons_succ]
        refine anyH_skip (i := 14) (by kernel_rfl) rfl none rfl rfl (ex_store (ty := 70) (x := .tmp 35) (y := .tmp 33) (u := v') (p := ⟨p, 1, none⟩) rfl rfl rfl hst) hSf ?_
        exact wpAnyH_done (by kernel_rfl) ⟨rfl, _, _, _, _, hto, rfl⟩ _
  case fin =>
    rintro a w2 ⟨x1, x2, x3, x4, hfin, rfl⟩
    have HF := hide hfin
    clear hfin
    go_wp2_with fail
    go_ret
    exact ⟨rfl, by rw [hvl]; exact HF.out⟩
end Go.Proofs.Ytdlejcdmjdljfaa
