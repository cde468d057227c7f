/- The document's device: Fork. -/
import Derived.Test.YtdlejcdmjdljfaaD17
namespace Go.Proofs.Ytdlejcdmjdljfaa
open Go.RowKit Go.Shelf

theorem stepE2 {t e : TypeId} {z : Value} {m b : Nat} (hu : Try.prog.underlying t = some (.slice e)) (hi : (Try.prog.info? e).map (fun i => (i.zero, i.size, i.bytes)) = some (some z, m, b)) (k : Nat) (X : World) (hk : k ≤ X.heap.size) : ∃ Y : World, Y.ownsRow k e m (.slice (some ⟨X.heap.size, 0, none⟩) 0 0) 0 [] ∧ (Instr.buildSlice t 0 #[]).run Try.prog X = .ok (.slice (some ⟨X.heap.size, 0, none⟩) 0 0) Y ∧ (∀ j, j < X.heap.size → Y.heap[j]? = X.heap[j]?) ∧ Below X.heap.size X Y :=
  ⟨_, own_empty X k e m hk, run_none hu hi X, fun j hj => Below.heap_alloc X _ j hj, (Below.refl _ X).alloc (Nat.le_refl _) _⟩
theorem stepV2 {T t e : TypeId} {z : Value} {m b : Nat} (hu : Try.prog.underlying t = some (.slice e)) (hi : (Try.prog.info? e).map (fun i => (i.zero, i.size, i.bytes)) = some (some z, m, b)) (hz : z.cells.size = m) (hm : 0 < m) (hb : b ≤ 1000) (base k bE : Nat) {n : Nat} {v : Value} {xs : List Value} (X : World) (hr : X.ownsRow base e m v n xs) (hn : n ≤ 1000000) (h1 : ∀ u ∈ xs, u.oneCell' = true) (hE : X.ownsRow k e m (.slice (some ⟨bE, 0, none⟩) 0 0) 0 []) (hk : k ≤ X.heap.size) :
    ∃ v' Y, (Builtin.append_ #[t, t] T #[.slice (some ⟨bE, 0, none⟩) 0 0, v]).run Try.prog X = .ok v' Y ∧ Y.ownsRow k e m v' n xs ∧ (∀ j, j < X.heap.size → j ≠ bE → Y.heap[j]? = X.heap[j]?) ∧ Below k X Y := by
  obtain ⟨ti, t1, t2, t3, t4⟩ := infos hi
  obtain ⟨hl, ⟨h2, h3⟩ | ⟨g, cap, cur, h2, _⟩⟩ := id hr
  · subst h3
    have hx : xs = [] := by simpa using hl
    subst hx
    rw [h2]
    exact ⟨_, X, run_append_owned_none (P := Try.prog) X k t T e ti m hu t1 _ 0 [] hE, hE, fun _ _ _ => rfl, Below.refl _ _⟩
  · rw [h2] at hr ⊢
    obtain ⟨v', w', hap, y1, y2, _, _⟩ := run_append_own_at (P := Try.prog) X k t T e ti z m b hu t1 t2 t3 t4 hz hm (.slice (some ⟨bE, 0, none⟩) 0 0) 0 [] hE ⟨g, 0, none⟩ n cap xs hl (own_cells hr) h1 (by unfold maxLen; omega) (by have : (0 + n) * b ≤ 1000000 * 1000 := Nat.mul_le_mul (by omega) hb; omega) hk
    exact ⟨v', w', hap, by simpa using y1, fun j hj hn => y2.block j hj (fun e => by cases e; exact hn rfl), (Below.refl _ X).grown y2 hk (fun r e => by cases e; exact own_base hE bE rfl)⟩

set_option maxRecDepth 100000 in
set_option maxHeartbeats 4000000 in
theorem rfork_any (base p : Nat) (d : Dv) (vl vw : Value) (w : World) (h : IsR base p d vl vw w) (hd : DvOk d) (hb : base ≤ w.heap.size) :
    Calls Try.prog 20 #[.pointer (some ⟨p, 0, none⟩)] w fun e w' => ∃ p' vl' vw', e = .returned (.pointer (some ⟨p', 0, none⟩)) ∧ IsR base p' d vl' vw' w' ∧ Below w.heap.size w w' ∧ ∀ j, foot p' vl' vw' j → w.heap.size ≤ j := by
  obtain ⟨q0, q1, _⟩ := h.cells
  have hfew := hd.few
  have hmost := hd.most
  have HH := hide h
  clear h hd
  go_enter Try.func20, Try.ntmps20
  go_wp2_with fail
  have h := HH.out
  refine region_rel (S := fun w0 => w0.cell? ⟨p, 0, none⟩ = some vl ∧ w0.cell? ⟨p, 1, none⟩ = some vw) (fun a w2 => ∃ p' vl' vw' x1 x2 x3 x4, (IsR base p' d vl' vw' w2 ∧ Below w.heap.size w w2 ∧ ∀ j, foot p' vl' vw' j → w.heap.size ≤ j) ∧ a = { tmps := #[.pointer (some ⟨p, 0, none⟩), undef, .pointer (some ⟨p', 0, none⟩), .pointer (some ⟨p, 0, none⟩), .bool false, x1, .pointer (some ⟨p, 0, none⟩), .pointer (some ⟨p, 0, none⟩), .pointer (some ⟨p, 0, none⟩), vl, vl', x2, .pointer (some ⟨p, 0, none⟩), .pointer (some ⟨p, 0, none⟩), .pointer (some ⟨p, 1, none⟩), vw, vw', x3, x4], defers := [] }) (by kernel_rfl) ?any ?fin
  case any =>
    have hS0 : w.drew.cell? ⟨p, 0, none⟩ = some vl ∧ w.drew.cell? ⟨p, 1, none⟩ = some vw := ⟨q0, q1⟩
    have hdev : ∀ X : World, Below w.heap.size w X → IsR base p d vl vw X := fun X hX => h.below hX
    have hSof : ∀ X : World, Below w.heap.size w X → X.cell? ⟨p, 0, none⟩ = some vl ∧ X.cell? ⟨p, 1, none⟩ = some vw := fun X hX => ⟨(hdev X hX).cells.1, (hdev X hX).cells.2.1⟩
    refine anyH_take (i := 1) (v := .pointer (some ⟨p, 0, none⟩)) rfl (some 6) rfl (by kernel_rfl) (by kernel_rfl) (by kernel_rfl) (fun _ _ _ h => by cases h.1) rfl (fun w0 hw0 => rfl) hS0 ?_
    simp only [Act.put, List.setIfInBounds_toArray, List.set_cons_zero, List.set_cons_succ]
    refine anyH_take (i := 2) (v := .pointer (some ⟨p, 0, none⟩)) rfl (some 7) rfl (by kernel_rfl) (by kernel_rfl) (by kernel_rfl) (fun _ _ _ h => by cases h.1) rfl (fun w0 hw0 => by kernel_rfl) hS0 ?_
    simp only [Act.put, List.setIfInBounds_toArray, List.set_cons_zero, List.set_cons_succ]
    refine anyH_take (i := 3) (v := .pointer (some ⟨p, 0, none⟩)) rfl (some 8) rfl (by kernel_rfl) (by kernel_rfl) (by kernel_rfl) (fun _ _ _ h => by cases h.1) rfl (fun w0 hw0 => by kernel_rfl) hS0 ?_
    simp only [Act.put, List.setIfInBounds_toArray, List.set_cons_zero, List.set_cons_succ]
    refine anyH_take (i := 4) (v := vl) rfl (some 9) rfl (by kernel_rfl) (by kernel_rfl) (by kernel_rfl) (fun _ _ _ h => by cases h.1) rfl (fun w0 hw0 => ex_load rfl rfl (run_load_cell Try.underlying69 rfl hw0.1)) hS0 ?_
    simp only [Act.put, List.setIfInBounds_toArray, List.set_cons_zero, List.set_cons_succ]
    refine anyH_take (i := 7) (v := .pointer (some ⟨p, 0, none⟩)) rfl (some 12) rfl (by kernel_rfl) (by kernel_rfl) (by kernel_rfl) (fun _ _ _ h => by cases h.1) rfl (fun w0 hw0 => rfl) hS0 ?_
    simp only [Act.put, List.setIfInBounds_toArray, List.set_cons_zero, List.set_cons_succ]
    refine anyH_take (i := 8) (v := .pointer (some ⟨p, 0, none⟩)) rfl (some 13) rfl (by kernel_rfl) (by kernel_rfl) (by kernel_rfl) (fun _ _ _ h => by cases h.1) rfl (fun w0 hw0 => by kernel_rfl) hS0 ?_
    simp only [Act.put, List.setIfInBounds_toArray, List.set_cons_zero, List.set_cons_succ]
    refine anyH_take (i := 9) (v := .pointer (some ⟨p, 1, none⟩)) rfl (some 14) rfl (by kernel_rfl) (by kernel_rfl) (by kernel_rfl) (fun _ _ _ h => by cases h.1) rfl (fun w0 hw0 => by kernel_rfl) hS0 ?_
    simp only [Act.put, List.setIfInBounds_toArray, List.set_cons_zero, List.set_cons_succ]
    refine anyH_take (i := 10) (v := vw) rfl (some 15) rfl (by kernel_rfl) (by kernel_rfl) (by kernel_rfl) (fun _ _ _ h => by cases h.1) rfl (fun w0 hw0 => ex_load rfl rfl (run_load_cell Try.underlying70 rfl hw0.2)) hS0 ?_
    simp only [Act.put, List.setIfInBounds_toArray, List.set_cons_zero, List.set_cons_succ]
    obtain ⟨X0, hX0⟩ : ∃ X0, w.drew = X0 := ⟨_, rfl⟩
    have hBX0 : Below w.heap.size w X0 := by rw [← hX0]; exact (Below.refl _ w).drew
    rw [hX0]
    refine anyH_two (i := 0) (j := 6) (by kernel_rfl) ?_ ?_
    · have hk1 : w.heap.size ≤ X0.heap.size := hBX0.size
      obtain ⟨Y1, hE1Y1, hrY1, halY1, hblY1⟩ := stepE2 Try.underlying69 infoSecR w.heap.size X0 hk1
      have hBY1 := hBX0.trans (hblY1.mono hk1)
      refine op_val (v := .slice (some ⟨X0.heap.size, 0, none⟩) 0 0) (w' := Y1) rfl (some 5) rfl rfl (ex_slice (us := #[]) rfl (by simp) hrY1) ⟨hSof _ hBY1, ?_⟩
      simp only [Act.put, List.setIfInBounds_toArray, List.set_cons_zero, List.set_cons_succ]
      refine anyH_two (i := 5) (j := 6) (by kernel_rfl) ?_ ?_
      · have hk3 : w.heap.size ≤ Y1.heap.size := hBY1.size
        obtain ⟨v3, Y3, hrY3, hV1Y3, halY3, hblY3⟩ := stepV2 (T := 69) Try.underlying69 infoSecR (by simp [Value.cells, byteCells_len, sec0]) (by omega) (by omega) base w.heap.size (X0.heap.size) Y1 (hdev _ hBY1).las (by omega) (las_one d.las) hE1Y1 hk3
        have hBY3 := hBY1.trans hblY3
        obtain ⟨g3, c3, rfl⟩ := own_shape hV1Y3
        refine op_val (v := .slice g3 d.las.length c3) (w' := Y3) rfl (some 10) rfl rfl (ex_append (s := .tmp 5) (x := .tmp 9) (t := 69) rfl rfl rfl hrY3) ⟨hSof _ hBY3, ?_⟩
        simp only [Act.put, List.setIfInBounds_toArray, List.set_cons_zero, List.set_cons_succ]
        have hk5 : w.heap.size ≤ Y3.heap.size := hBY3.size
        obtain ⟨Y5, hE2Y5, hrY5, halY5, hblY5⟩ := stepE2 Try.underlying70 infoWrR w.heap.size Y3 hk5
        have hBY5 := hBY3.trans (hblY5.mono hk5)
        have hV1Y5 := own_same (B := Y5) hV1Y3 (fun g e => halY5 g (own_lt hV1Y3 g e))
        refine anyH_val (i := 6) (v := .slice (some ⟨Y3.heap.size, 0, none⟩) 0 0) (w' := Y5) (by kernel_rfl) rfl (some 11) rfl rfl (ex_slice (us := #[]) rfl (by simp) hrY5) (hSof _ hBY5) ?_
        simp only [Act.put, List.setIfInBounds_toArray, List.set_cons_zero, List.set_cons_succ]
        have hk6 : w.heap.size ≤ Y5.heap.size := hBY5.size
        obtain ⟨v6, Y6, hrY6, hV2Y6, halY6, hblY6⟩ := stepV2 (T := 70) Try.underlying70 infoWrR (by simp [Value.cells, wrC1, byteCells_len, sec0]) (by omega) (by omega) base w.heap.size (Y3.heap.size) Y5 (hdev _ hBY5).wr (by omega) (wrs_one d.wr) hE2Y5 hk6
        have hBY6 := hBY5.trans hblY6
        have hV1Y6 := own_same (B := Y6) hV1Y5 (fun g e => halY6 g (own_lt hV1Y5 g e) (fun e' => own_types hV1Y5 hE2Y5 (by decide) g e (by rw [e']; rfl)))
        obtain ⟨g6, c6, rfl⟩ := own_shape hV2Y6
        refine anyH_val (i := 11) (v := .slice g6 d.wr.length c6) (w' := Y6) (by kernel_rfl) rfl (some 16) rfl rfl (ex_append (s := .tmp 11) (x := .tmp 15) (t := 70) rfl rfl rfl hrY6) (hSof _ hBY6) ?_
        simp only [Act.put, List.setIfInBounds_toArray, List.set_cons_zero, List.set_cons_succ]
        have hbu : ∀ w0 : World, (Instr.build 72 #[(0, .slice g3 d.las.length c3), (1, .slice g6 d.wr.length c6)]).run Try.prog w0 = .ok (.agg #[.slice g3 d.las.length c3, .slice g6 d.wr.length c6]) w0 := fun w0 => by kernel_rfl
        refine anyH_val (i := 12) (v := .agg #[.slice g3 d.las.length c3, .slice g6 d.wr.length c6]) (w' := Y6) (by kernel_rfl) rfl (some 17) rfl rfl (ex_build (us := #[(0, .slice g3 d.las.length c3), (1, .slice g6 d.wr.length c6)]) rfl (by simp [Act.eval]) (hbu _)) (hSof _ hBY6) ?_
        simp only [Act.put, List.setIfInBounds_toArray, List.set_cons_zero, List.set_cons_succ]
        have hk : w.heap.size ≤ Y6.heap.size := hBY6.size
        have hBf : Below w.heap.size w (Y6.alloc (.cells #[.slice g3 d.las.length c3, .slice g6 d.wr.length c6] 72)) := hBY6.alloc hk _
        refine anyH_val (i := 13) (v := .pointer (some ⟨Y6.heap.size, 0, none⟩)) (by kernel_rfl) rfl (some 18) rfl rfl (ex_box rfl rfl (run_box_long 72 #[.slice g3 d.las.length c3, .slice g6 d.wr.length c6] Y6)) (hSof _ hBf) ?_
        simp only [Act.put, List.setIfInBounds_toArray, List.set_cons_zero, List.set_cons_succ]
        refine anyH_val (i := 14) (v := .pointer (some ⟨Y6.heap.size, 0, none⟩)) (w' := Y6.alloc (.cells #[.slice g3 d.las.length c3, .slice g6 d.wr.length c6] 72)) (by kernel_rfl) rfl (some 2) rfl rfl rfl (hSof _ hBf) ?_
        simp only [Act.put, List.setIfInBounds_toArray, List.set_cons_zero, List.set_cons_succ]
        refine wpAnyH_done (by kernel_rfl) ⟨rfl, Y6.heap.size, _, _, _, _, _, _, ⟨⟨by omega, World.alloc_heap_new Y6 _, (own_less hV1Y6 hb).alloc _, (own_less hV2Y6 hb).alloc _⟩, hBf, ?_⟩, rfl⟩ _
        rintro j (h | h | h)
        · omega
        · exact own_base hV1Y6 j h
        · exact own_base hV2Y6 j h
      · have hk4 : w.heap.size ≤ Y1.heap.size := hBY1.size
        obtain ⟨Y4, hE2Y4, hrY4, halY4, hblY4⟩ := stepE2 Try.underlying70 infoWrR w.heap.size Y1 hk4
        have hBY4 := hBY1.trans (hblY4.mono hk4)
        have hE1Y4 := own_same (B := Y4) hE1Y1 (fun g e => halY4 g (own_lt hE1Y1 g e))
        refine op_val (v := .slice (some ⟨Y1.heap.size, 0, none⟩) 0 0) (w' := Y4) rfl (some 11) rfl rfl (ex_slice (us := #[]) rfl (by simp) hrY4) ⟨hSof _ hBY4, ?_⟩
        simp only [Act.put, List.setIfInBounds_toArray, List.set_cons_zero, List.set_cons_succ]
        have hk7 : w.heap.size ≤ Y4.heap.size := hBY4.size
        obtain ⟨v7, Y7, hrY7, hV1Y7, halY7, hblY7⟩ := stepV2 (T := 69) Try.underlying69 infoSecR (by simp [Value.cells, byteCells_len, sec0]) (by omega) (by omega) base w.heap.size (X0.heap.size) Y4 (hdev _ hBY4).las (by omega) (las_one d.las) hE1Y4 hk7
        have hBY7 := hBY4.trans hblY7
        have hE2Y7 := own_same (B := Y7) hE2Y4 (fun g e => halY7 g (own_lt hE2Y4 g e) (fun e' => own_types hE2Y4 hE1Y4 (by decide) g e (by rw [e']; rfl)))
        obtain ⟨g7, c7, rfl⟩ := own_shape hV1Y7
        refine anyH_val (i := 5) (v := .slice g7 d.las.length c7) (w' := Y7) (by kernel_rfl) rfl (some 10) rfl rfl (ex_append (s := .tmp 5) (x := .tmp 9) (t := 69) rfl rfl rfl hrY7) (hSof _ hBY7) ?_
        simp only [Act.put, List.setIfInBounds_toArray, List.set_cons_zero, List.set_cons_succ]
        have hk8 : w.heap.size ≤ Y7.heap.size := hBY7.size
        obtain ⟨v8, Y8, hrY8, hV2Y8, halY8, hblY8⟩ := stepV2 (T := 70) Try.underlying70 infoWrR (by simp [Value.cells, wrC1, byteCells_len, sec0]) (by omega) (by omega) base w.heap.size (Y1.heap.size) Y7 (hdev _ hBY7).wr (by omega) (wrs_one d.wr) hE2Y7 hk8
        have hBY8 := hBY7.trans hblY8
        have hV1Y8 := own_same (B := Y8) hV1Y7 (fun g e => halY8 g (own_lt hV1Y7 g e) (fun e' => own_types hV1Y7 hE2Y7 (by decide) g e (by rw [e']; rfl)))
        obtain ⟨g8, c8, rfl⟩ := own_shape hV2Y8
        refine anyH_val (i := 11) (v := .slice g8 d.wr.length c8) (w' := Y8) (by kernel_rfl) rfl (some 16) rfl rfl (ex_append (s := .tmp 11) (x := .tmp 15) (t := 70) rfl rfl rfl hrY8) (hSof _ hBY8) ?_
        simp only [Act.put, List.setIfInBounds_toArray, List.set_cons_zero, List.set_cons_succ]
        have hbu : ∀ w0 : World, (Instr.build 72 #[(0, .slice g7 d.las.length c7), (1, .slice g8 d.wr.length c8)]).run Try.prog w0 = .ok (.agg #[.slice g7 d.las.length c7, .slice g8 d.wr.length c8]) w0 := fun w0 => by kernel_rfl
        refine anyH_val (i := 12) (v := .agg #[.slice g7 d.las.length c7, .slice g8 d.wr.length c8]) (w' := Y8) (by kernel_rfl) rfl (some 17) rfl rfl (ex_build (us := #[(0, .slice g7 d.las.length c7), (1, .slice g8 d.wr.length c8)]) rfl (by simp [Act.eval]) (hbu _)) (hSof _ hBY8) ?_
        simp only [Act.put, List.setIfInBounds_toArray, List.set_cons_zero, List.set_cons_succ]
        have hk : w.heap.size ≤ Y8.heap.size := hBY8.size
        have hBf : Below w.heap.size w (Y8.alloc (.cells #[.slice g7 d.las.length c7, .slice g8 d.wr.length c8] 72)) := hBY8.alloc hk _
        refine anyH_val (i := 13) (v := .pointer (some ⟨Y8.heap.size, 0, none⟩)) (by kernel_rfl) rfl (some 18) rfl rfl (ex_box rfl rfl (run_box_long 72 #[.slice g7 d.las.length c7, .slice g8 d.wr.length c8] Y8)) (hSof _ hBf) ?_
        simp only [Act.put, List.setIfInBounds_toArray, List.set_cons_zero, List.set_cons_succ]
        refine anyH_val (i := 14) (v := .pointer (some ⟨Y8.heap.size, 0, none⟩)) (w' := Y8.alloc (.cells #[.slice g7 d.las.length c7, .slice g8 d.wr.length c8] 72)) (by kernel_rfl) rfl (some 2) rfl rfl rfl (hSof _ hBf) ?_
        simp only [Act.put, List.setIfInBounds_toArray, List.set_cons_zero, List.set_cons_succ]
        refine wpAnyH_done (by kernel_rfl) ⟨rfl, Y8.heap.size, _, _, _, _, _, _, ⟨⟨by omega, World.alloc_heap_new Y8 _, (own_less hV1Y8 hb).alloc _, (own_less hV2Y8 hb).alloc _⟩, hBf, ?_⟩, rfl⟩ _
        rintro j (h | h | h)
        · omega
        · exact own_base hV1Y8 j h
        · exact own_base hV2Y8 j h
    · have hk2 : w.heap.size ≤ X0.heap.size := hBX0.size
      obtain ⟨Y2, hE2Y2, hrY2, halY2, hblY2⟩ := stepE2 Try.underlying70 infoWrR w.heap.size X0 hk2
      have hBY2 := hBX0.trans (hblY2.mono hk2)
      refine op_val (v := .slice (some ⟨X0.heap.size, 0, none⟩) 0 0) (w' := Y2) rfl (some 11) rfl rfl (ex_slice (us := #[]) rfl (by simp) hrY2) ⟨hSof _ hBY2, ?_⟩
      simp only [Act.put, List.setIfInBounds_toArray, List.set_cons_zero, List.set_cons_succ]
      have hk9 : w.heap.size ≤ Y2.heap.size := hBY2.size
      obtain ⟨Y9, hE1Y9, hrY9, halY9, hblY9⟩ := stepE2 Try.underlying69 infoSecR w.heap.size Y2 hk9
      have hBY9 := hBY2.trans (hblY9.mono hk9)
      have hE2Y9 := own_same (B := Y9) hE2Y2 (fun g e => halY9 g (own_lt hE2Y2 g e))
      refine anyH_val (i := 0) (v := .slice (some ⟨Y2.heap.size, 0, none⟩) 0 0) (w' := Y9) (by kernel_rfl) rfl (some 5) rfl rfl (ex_slice (us := #[]) rfl (by simp) hrY9) (hSof _ hBY9) ?_
      simp only [Act.put, List.setIfInBounds_toArray, List.set_cons_zero, List.set_cons_succ]
      have hk10 : w.heap.size ≤ Y9.heap.size := hBY9.size
      obtain ⟨v10, Y10, hrY10, hV1Y10, halY10, hblY10⟩ := stepV2 (T := 69) Try.underlying69 infoSecR (by simp [Value.cells, byteCells_len, sec0]) (by omega) (by omega) base w.heap.size (Y2.heap.size) Y9 (hdev _ hBY9).las (by omega) (las_one d.las) hE1Y9 hk10
      have hBY10 := hBY9.trans hblY10
      have hE2Y10 := own_same (B := Y10) hE2Y9 (fun g e => halY10 g (own_lt hE2Y9 g e) (fun e' => own_types hE2Y9 hE1Y9 (by decide) g e (by rw [e']; rfl)))
      obtain ⟨g10, c10, rfl⟩ := own_shape hV1Y10
      refine anyH_val (i := 5) (v := .slice g10 d.las.length c10) (w' := Y10) (by kernel_rfl) rfl (some 10) rfl rfl (ex_append (s := .tmp 5) (x := .tmp 9) (t := 69) rfl rfl rfl hrY10) (hSof _ hBY10) ?_
      simp only [Act.put, List.setIfInBounds_toArray, List.set_cons_zero, List.set_cons_succ]
      have hk11 : w.heap.size ≤ Y10.heap.size := hBY10.size
      obtain ⟨v11, Y11, hrY11, hV2Y11, halY11, hblY11⟩ := stepV2 (T := 70) Try.underlying70 infoWrR (by simp [Value.cells, wrC1, byteCells_len, sec0]) (by omega) (by omega) base w.heap.size (X0.heap.size) Y10 (hdev _ hBY10).wr (by omega) (wrs_one d.wr) hE2Y10 hk11
      have hBY11 := hBY10.trans hblY11
      have hV1Y11 := own_same (B := Y11) hV1Y10 (fun g e => halY11 g (own_lt hV1Y10 g e) (fun e' => own_types hV1Y10 hE2Y10 (by decide) g e (by rw [e']; rfl)))
      obtain ⟨g11, c11, rfl⟩ := own_shape hV2Y11
      refine anyH_val (i := 11) (v := .slice g11 d.wr.length c11) (w' := Y11) (by kernel_rfl) rfl (some 16) rfl rfl (ex_append (s := .tmp 11) (x := .tmp 15) (t := 70) rfl rfl rfl hrY11) (hSof _ hBY11) ?_
      simp only [Act.put, List.setIfInBounds_toArray, List.set_cons_zero, List.set_cons_succ]
      have hbu : ∀ w0 : World, (Instr.build 72 #[(0, .slice g10 d.las.length c10), (1, .slice g11 d.wr.length c11)]).run Try.prog w0 = .ok (.agg #[.slice g10 d.las.length c10, .slice g11 d.wr.length c11]) w0 := fun w0 => by kernel_rfl
      refine anyH_val (i := 12) (v := .agg #[.slice g10 d.las.length c10, .slice g11 d.wr.length c11]) (w' := Y11) (by kernel_rfl) rfl (some 17) rfl rfl (ex_build (us := #[(0, .slice g10 d.las.length c10), (1, .slice g11 d.wr.length c11)]) rfl (by simp [Act.eval]) (hbu _)) (hSof _ hBY11) ?_
      simp only [Act.put, List.setIfInBounds_toArray, List.set_cons_zero, List.set_cons_succ]
      have hk : w.heap.size ≤ Y11.heap.size := hBY11.size
      have hBf : Below w.heap.size w (Y11.alloc (.cells #[.slice g10 d.las.length c10, .slice g11 d.wr.length c11] 72)) := hBY11.alloc hk _
      refine anyH_val (i := 13) (v := .pointer (some ⟨Y11.heap.size, 0, none⟩)) (by kernel_rfl) rfl (some 18) rfl rfl (ex_box rfl rfl (run_box_long 72 #[.slice g10 d.las.length c10, .slice g11 d.wr.length c11] Y11)) (hSof _ hBf) ?_
      simp only [Act.put, List.setIfInBounds_toArray, List.set_cons_zero, List.set_cons_succ]
      refine anyH_val (i := 14) (v := .pointer (some ⟨Y11.heap.size, 0, none⟩)) (w' := Y11.alloc (.cells #[.slice g10 d.las.length c10, .slice g11 d.wr.length c11] 72)) (by kernel_rfl) rfl (some 2) rfl rfl rfl (hSof _ hBf) ?_
      simp only [Act.put, List.setIfInBounds_toArray, List.set_cons_zero, List.set_cons_succ]
      refine wpAnyH_done (by kernel_rfl) ⟨rfl, Y11.heap.size, _, _, _, _, _, _, ⟨⟨by omega, World.alloc_heap_new Y11 _, (own_less hV1Y11 hb).alloc _, (own_less hV2Y11 hb).alloc _⟩, hBf, ?_⟩, rfl⟩ _
      rintro j (h | h | h)
      · omega
      · exact own_base hV1Y11 j h
      · exact own_base hV2Y11 j h
  case fin =>
    rintro a w2 ⟨p', vl', vw', x1, x2, x3, x4, hfin, rfl⟩
    have HF := hide hfin
    clear hfin
    go_wp2_with fail
    go_ret
    exact ⟨_, _, _, rfl, HF.out⟩
end Go.Proofs.Ytdlejcdmjdljfaa
