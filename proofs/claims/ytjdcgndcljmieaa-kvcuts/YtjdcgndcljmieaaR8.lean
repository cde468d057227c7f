/- The document's map: Bytes, Size. -/
import Derived.Test.YtjdcgndcljmieaaR7
import Derived.Test.YtjdcgndcljmieaaRG
namespace Go.Proofs.Ytjdcgndcljmieaa
open Go.RowKit

theorem run_load_cell {T : TypeId} {d : TypeDesc} {w : World} {b i : Nat} {v : Value} (hu : Try.prog.underlying T = some d) (hd : d.isRow = false) (hc : w.cell? ⟨b, i, none⟩ = some v) : (Instr.loadAt T (.pointer (some ⟨b, i, none⟩))).run Try.prog w = .ok v w := by
  have ha : (isAgg T).run Try.prog w = .ok false w := by
    unfold isAgg
    rw [Sem.run_bind, run_underlying hu w]
    cases d <;> simp_all
  simp [Instr.loadAt, Instr.sureAddr, loadVar, ha, hc, go_sem]
theorem ex_slice {o : Oper} {a : Act} {w w' : World} {T : TypeId} {n : Nat} {ps : Array (Nat × Operand)} {v : Value} {us : Array (Nat × Value)} (ho : o.op = .buildSlice T n ps) (hp : (ps.map fun x => (x.1, a.eval x.2)) = us) (hr : (Instr.buildSlice T n us).run Try.prog w = .ok v w') : (execOp a.eval o).run Try.prog w = .ok (.value v) w' := by
  unfold execOp
  simp only [ho]
  rw [show (ps.map fun (i, x) => (i, a.eval x)) = us from hp]
  simp [hr]
theorem run_bs1 (x : Int) (w : World) : (Instr.buildSlice 30 1 #[(0, .int .u8 x)]).run Try.prog w = .ok (.slice (some ⟨w.heap.size, 0, none⟩) 1 1) (w.alloc (.cells #[.int .u8 x] 5)) := by
  obtain ⟨ti, t1, t2, t3, t4⟩ := info_parts info5
  unfold Instr.buildSlice
  simp only [Sem.run_bind, run_underlying Try.underlying30, Result.andThen_ok]
  simp [sizeOf, zeroValue, typeInfo, t1, t2, t3, newRow, Value.cells, Instr.fill, Array.range_succ]
  rw [show Array.range 0 = #[] from rfl]
  simp
theorem run_bs2 (x y : Int) (w : World) : (Instr.buildSlice 30 2 #[(0, .int .u8 x), (1, .int .u8 y)]).run Try.prog w = .ok (.slice (some ⟨w.heap.size, 0, none⟩) 2 2) (w.alloc (.cells #[.int .u8 x, .int .u8 y] 5)) := by
  obtain ⟨ti, t1, t2, t3, t4⟩ := info_parts info5
  unfold Instr.buildSlice
  simp only [Sem.run_bind, run_underlying Try.underlying30, Result.andThen_ok]
  simp [sizeOf, zeroValue, typeInfo, t1, t2, t3, newRow, Value.cells, Instr.fill, Array.range_succ]
  rw [show Array.range 0 = #[] from rfl]
  simp
/-- Two bytes behind. -/
theorem put_two {base : Nat} {v : Value} {l : List UInt8} {w : World} (c d : UInt8) (h : Row w base v l) (hb : base ≤ w.heap.size) (hl : l.length ≤ 10000000) : ∃ v' w', (Builtin.append_ #[30, 30] 30 #[v, .slice (some ⟨w.heap.size, 0, none⟩) 2 2]).run Try.prog (w.alloc (.cells #[.int .u8 c.toNat, .int .u8 d.toNat] 5)) = .ok v' w' ∧ Row w' base v' (l ++ [c] ++ [d]) ∧ w.grownBy w' v.ownBlock ∧ (v'.ownBlock = v.ownBlock ∨ ∃ g, v'.ownBlock = some g ∧ w.heap.size ≤ g) := by
  obtain ⟨ti, t1, t2, t3, t4⟩ := info_parts info5
  have hB : Below w.heap.size w (w.alloc (.cells #[.int .u8 c.toNat, .int .u8 d.toNat] 5)) := (Below.refl _ w).alloc (Nat.le_refl _) _
  have f3 : (w.alloc (.cells #[.int .u8 c.toNat, .int .u8 d.toNat] 5)).heap[w.heap.size]? = some (.cells #[.int .u8 c.toNat, .int .u8 d.toNat] 5) := heap_alloc_new w _
  obtain ⟨v', w', hap, y1, y2, _, y4⟩ := run_append_own_at (P := Try.prog) (w.alloc (.cells #[.int .u8 c.toNat, .int .u8 d.toNat] 5)) base 30 30 5 ti _ 1 1 Try.underlying30 t1 t2 t3 t4 rfl (by omega) v l.length (Lib.byteCells l) (own_same h (fun g e => hB.block g (own_lt h g e))) ⟨w.heap.size, 0, none⟩ 2 2 [.int .u8 c.toNat, .int .u8 d.toNat] rfl (fun j u hj => by
    rw [Addr.add_mid, cell_of_row _ w.heap.size (0 + j) _ _ _ f3]
    simpa using hj) (by simp [Value.oneCell']) (by unfold maxLen; omega) (by omega) (Nat.le_trans hb hB.size)
  refine ⟨v', w', hap, ?_, (World.grownBy_alloc w _ _).trans y2, ?_⟩
  · show w'.ownsRow base 5 1 v' (l ++ [c] ++ [d]).length (Lib.byteCells (l ++ [c] ++ [d]))
    rw [bc_app, bc_app, List.length_append, List.length_append, List.append_assoc]
    exact y1
  · rcases y4 with z | z
    · exact .inl z
    · exact .inr ⟨_, z, hB.size⟩
theorem ex_len_str {o : Oper} {a : Act} {w : World} {s : Operand} {x : ByteArray} (ho : o.op = .call { callee := .builtin .len, args := #[s], argTypes := #[9] }) (hs : a.eval s = .string x) : (execOp a.eval o).run Try.prog w = .ok (.value (.int .i64 (x.size : Nat))) w := by
  exact ex_len ho hs (run_len_string (P := Try.prog) (w := w) 9 o.type x Try.underlying9)
theorem ex_byte {o : Oper} {a : Act} {w : World} {s : Operand} {x : Nat} (ho : o.op = .convert 3 5 s) (hs : a.eval s = .int .i64 x) : (execOp a.eval o).run Try.prog w = .ok (.value (.int .u8 (UInt8.ofNat x).toNat)) w := by
  have h : (convert 3 5 (.int .i64 x)).run Try.prog w = .ok (.int .u8 (UInt8.ofNat x).toNat) w := by
    go_simp
    rw [IntKind.wrap_u8]
  unfold execOp
  simp [ho, hs, h]
theorem ex_shr8 {o : Oper} {a : Act} {w : World} {s : Operand} {x : Nat} (ho : o.op = .binOp .shr 3 s (.const (.int .u64 8)) 60) (hs : a.eval s = .int .i64 x) : (execOp a.eval o).run Try.prog w = .ok (.value (.int .i64 (x / 256 : Nat))) w := by
  unfold execOp
  simp only [ho, hs]
  go_simp
theorem ex_any {o : Oper} {a : Act} {w : World} {s : Operand} {v : Value} (ho : o.op = .assign s) (hs : a.eval s = v) : (execOp a.eval o).run Try.prog w = .ok (.value v) w := by
  unfold execOp
  simp [ho, hs]
set_option maxRecDepth 100000 in
set_option maxHeartbeats 4000000 in
theorem rbytes_any (base p : Nat) (v : Value) (L : List Pr) (w : World) (h : IsR base p v L w) (hG : Good L) :
    Calls Try.prog 29 #[.pointer (some ⟨p, 0, none⟩)] w fun e w' => ∃ u, e = .returned u ∧ Row w' w.heap.size u (bytesM L) ∧ Below w.heap.size w w' := by
  have hfew := h.few
  obtain ⟨m, hm⟩ : ∃ m, L.length = m := ⟨_, rfl⟩
  have hrow : w.ownsRow base 55 2 v m (pairC L) := by rw [← hm]; exact h.row
  rw [hm] at hfew
  obtain ⟨ga, gc, rfl⟩ := own_shape hrow
  have HM := hide (And.intro hm (And.intro h hG))
  clear h hrow hm hG
  go_enter Try.func29, Try.ntmps29
  go_wp2_with fail
  go_loopw [3, 4] (fun s j wr => ∃ n : Nat, n ≤ m ∧ j = .int .i64 n ∧ Row wr w.heap.size s (bytesM (L.take n)) ∧ Below w.heap.size w wr) (fun _ j _ => m - (intOf j).toNat)
  case atStart => exact ⟨0, Nat.zero_le _, rfl, World.ownsRow_nil _ _ _ _, Below.refl _ _⟩
  case round =>
    obtain ⟨n, hn, rfl, hS, hbw⟩ := hrel
    have hwz := hbw.size
    have hw1 : IntKind.i64.wrap ((n : Int) + 1) = n + 1 := by rw [IntKind.wrap_i64]; omega
    have hR := HM.out.2.1.below hbw
    have hc := hR.cell
    have hrow : wr.ownsRow base 55 2 (.slice ga m gc) m (pairC L) := by have h := hR.row; unfold Prs at h; rwa [HM.out.1] at h
    by_cases hlt : n < m
    · have hlti : (n : Int) < m := by omega
      obtain ⟨x, hx⟩ : ∃ x, L[n]? = some x := ⟨L[n]'(by have := HM.out.1; omega), by simp⟩
      obtain ⟨b, rfl, hbl, c0, c1⟩ := pr_cells hrow HM.out.1.symm hx
      obtain ⟨hk1, hk64, hv4⟩ := HM.out.2.2.each x (List.mem_of_getElem? hx)
      have hkl : (bytesM (L.take n)).length ≤ 532864 := by
        rw [bytesM_len]
        have := take_size (L := L) n
        have := size_good HM.out.2.2
        omega
      obtain ⟨W, hW⟩ : ∃ W, wr.alloc (.cells #[.string x.1, .string x.2] 55) = W := ⟨_, rfl⟩
      have f1 : W.heap[wr.heap.size]? = some (.cells #[.string x.1, .string x.2] 55) := by rw [← hW]; exact heap_alloc_new wr _
      have hB1 : Below wr.heap.size wr W := by rw [← hW]; exact (Below.refl _ wr).alloc (Nat.le_refl _) _
      obtain ⟨bx, hbx⟩ : ∃ bx, wr.heap.size = bx := ⟨_, rfl⟩
      have hsb : ∀ g, u3.ownBlock = some g → g < bx := fun g e => by rw [← hbx]; exact own_lt hS g e
      have hS1 : Row W.drew w.heap.size u3 (bytesM (L.take n)) := own_same hS (fun g e => hB1.block g (own_lt hS g e))
      have zW : W.drew.heap.size = bx + 1 := by show W.heap.size = bx + 1; rw [← hW, ← hbx]; simp
      rw [hbx] at f1 hB1
      obtain ⟨v1, w1, a1, r1, g1, p1⟩ := put_byte (UInt8.ofNat x.1.size) hS1 (by omega) (by omega)
      have z1 := g1.size
      obtain ⟨v2, w2, a2, r2, g2⟩ := put_text x.1 r1 (by omega) (by simp; omega)
      have k0 : W.drew.heap[bx]? = some (.cells #[.string x.1, .string x.2] 55) := f1
      have k1 : (W.drew.alloc (.cells #[.int .u8 (UInt8.ofNat x.1.size).toNat] 5)).heap[bx]? = some (.cells #[.string x.1, .string x.2] 55) := by rw [Below.heap_alloc _ _ _ (by omega)]; exact k0
      have k2 : w1.heap[bx]? = some (.cells #[.string x.1, .string x.2] 55) := (g1.block bx (by omega) (fun e => by have := hsb bx e.symm; omega)).trans k0
      have n1 : v1.ownBlock ≠ some bx := row_ne5 r1 k2 (fun cs e => by cases e)
      have k3 : w2.heap[bx]? = some (.cells #[.string x.1, .string x.2] 55) := (g2.block bx (by omega) (fun e => n1 e.symm)).trans k2
      obtain ⟨l5, hl5⟩ : ∃ l5, bytesM (L.take n) ++ [UInt8.ofNat x.1.size] ++ x.1.toList = l5 := ⟨_, rfl⟩
      have hl5n : l5.length ≤ 532964 := by rw [← hl5]; simp [tl_len]; omega
      rw [hl5] at r2
      have hBw2 : Below w.heap.size w w2 := (hbw.trans ((hB1.mono (by omega)).trans (Below.refl _ W).drew)).trans (((Below.refl _ W.drew).grown g1 (by omega) (fun j e => own_base hS1 j e)).trans ((Below.refl _ w1).grown g2 (by omega) (fun j e => own_base r1 j e)))
      have HB6 := hide (And.intro k0 (And.intro k1 (And.intro k2 (And.intro k3 (And.intro r2 hBw2)))))
      have HA1 := hide a1
      have HA2 := hide a2
      have HX := hide (And.intro hx hl5)
      clear hS hbw hR hrow hx hS1 f1 hB1 a1 r1 g1 p1 a2 r2 g2 k0 k1 k2 k3 n1 hl5 hBw2 hsb
      go_wp2_with fail
      skip
      refine region_rel (S := fun W : World => W.heap[bx]? = some (.cells #[.string x.1, .string x.2] 55)) (fun a W => ∃ x6 x7 x8 x9 x10 x11 x12 x13 x14 x15 x16 x17 x18 x19 x20 x21 x22 x23 x24 x25 x26 x27 x28 x29 x30 x31 x32 x33 x34 x35 x36 x37 x38 x39 x40 x41 x42 x43 x44 x45 x46 x47 x48 x49 x50 : Value, ∃ s1 : Value, (Row W w.heap.size s1 l5 ∧ W.heap[bx]? = some (.cells #[.string x.1, .string x.2] 55) ∧ Below w.heap.size w W) ∧ a = { tmps := #[.pointer (some ⟨p, 0, none⟩), undef, .slice none 0 0, s1, .int .i64 n, .pointer (some ⟨bx, 0, none⟩), x6, x7, x8, x9, x10, x11, x12, x13, x14, x15, x16, x17, x18, x19, x20, x21, x22, x23, x24, x25, x26, x27, x28, x29, x30, x31, x32, x33, x34, x35, x36, x37, x38, x39, x40, x41, x42, x43, x44, x45, x46, x47, x48, x49, x50, undef], defers := [] }) (by kernel_rfl) ?any6 ?fin6
      case any6 =>
        have S0 : W.drew.heap[bx]? = some (.cells #[.string x.1, .string x.2] 55) := HB6.out.1
        refine anyH_take (i := 0) (v := u3) rfl (some 26) rfl (by kernel_rfl) (by kernel_rfl) (by kernel_rfl) (fun _ _ _ h => by cases h.1) rfl (fun w0 hw0 => by first | rfl | kernel_rfl) S0 ?_
        simp only [Act.put, List.setIfInBounds_toArray, List.set_cons_zero, List.set_cons_succ]
        refine anyH_take (i := 1) (v := .pointer (some ⟨bx, 0, none⟩)) rfl (some 27) rfl (by kernel_rfl) (by kernel_rfl) (by kernel_rfl) (fun _ _ _ h => by cases h.1) rfl (fun w0 hw0 => by first | rfl | kernel_rfl) S0 ?_
        simp only [Act.put, List.setIfInBounds_toArray, List.set_cons_zero, List.set_cons_succ]
        refine anyH_take (i := 2) (v := .string x.1) rfl (some 28) rfl (by kernel_rfl) (by kernel_rfl) (by kernel_rfl) (fun _ _ _ h => by cases h.1) rfl (fun w0 hw0 => ex_load rfl rfl (run_load_cell Try.underlying9 rfl (by simp [World.cell?, hw0]))) S0 ?_
        simp only [Act.put, List.setIfInBounds_toArray, List.set_cons_zero, List.set_cons_succ]
        refine anyH_take (i := 3) (v := .int .i64 (x.1.size : Nat)) rfl (some 29) rfl (by kernel_rfl) (by kernel_rfl) (by kernel_rfl) (fun _ _ _ h => by cases h.1) rfl (fun w0 hw0 => ex_len_str rfl rfl) S0 ?_
        simp only [Act.put, List.setIfInBounds_toArray, List.set_cons_zero, List.set_cons_succ]
        refine anyH_take (i := 4) (v := .int .u8 (UInt8.ofNat x.1.size).toNat) rfl (some 30) rfl (by kernel_rfl) (by kernel_rfl) (by kernel_rfl) (fun _ _ _ h => by cases h.1) rfl (fun w0 hw0 => ex_byte rfl rfl) S0 ?_
        simp only [Act.put, List.setIfInBounds_toArray, List.set_cons_zero, List.set_cons_succ]
        refine anyH_take (i := 7) (v := .pointer (some ⟨bx, 0, none⟩)) rfl (some 33) rfl (by kernel_rfl) (by kernel_rfl) (by kernel_rfl) (fun _ _ _ h => by cases h.1) rfl (fun w0 hw0 => by first | rfl | kernel_rfl) S0 ?_
        simp only [Act.put, List.setIfInBounds_toArray, List.set_cons_zero, List.set_cons_succ]
        refine anyH_take (i := 8) (v := .string x.1) rfl (some 34) rfl (by kernel_rfl) (by kernel_rfl) (by kernel_rfl) (fun _ _ _ h => by cases h.1) rfl (fun w0 hw0 => ex_load rfl rfl (run_load_cell Try.underlying9 rfl (by simp [World.cell?, hw0]))) S0 ?_
        simp only [Act.put, List.setIfInBounds_toArray, List.set_cons_zero, List.set_cons_succ]
        refine anyH_val (i := 5) (by kernel_rfl) rfl (some 31) rfl rfl (ex_slice (us := #[(0, .int .u8 (UInt8.ofNat x.1.size).toNat)]) rfl (by simp [Act.eval]) (run_bs1 _ _)) HB6.out.2.1 ?_
        simp only [Act.put, List.setIfInBounds_toArray, List.set_cons_zero, List.set_cons_succ]
        refine anyH_val (i := 6) (by kernel_rfl) rfl (some 32) rfl rfl (ex_append2 (t := 30) (t' := 30) rfl rfl rfl HA1.out) HB6.out.2.2.1 ?_
        simp only [Act.put, List.setIfInBounds_toArray, List.set_cons_zero, List.set_cons_succ]
        refine anyH_val (i := 9) (by kernel_rfl) rfl (some 35) rfl rfl (ex_append2 (t := 30) (t' := 9) rfl rfl rfl HA2.out) HB6.out.2.2.2.1 ?_
        simp only [Act.put, List.setIfInBounds_toArray, List.set_cons_zero, List.set_cons_succ]
        refine anyH_val (i := 10) (by kernel_rfl) rfl (some 3) rfl rfl (ex_any rfl rfl) HB6.out.2.2.2.1 ?_
        simp only [Act.put, List.setIfInBounds_toArray, List.set_cons_zero, List.set_cons_succ]
        exact wpAnyH_done (by kernel_rfl) ⟨rfl, _, _, _, _, _, _, _, _, _, _, _, _, _, _, _, _, _, _, _, _, _, _, _, _, _, _, _, _, _, _, _, _, _, _, _, _, _, _, _, _, _, _, _, _, _, _, ⟨HB6.out.2.2.2.2.1, HB6.out.2.2.2.1, HB6.out.2.2.2.2.2⟩, rfl⟩ _
      case fin6 =>
        rintro a W2 ⟨x6, x7, x8, x9, x10, x11, x12, x13, x14, x15, x16, x17, x18, x19, x20, x21, x22, x23, x24, x25, x26, x27, x28, x29, x30, x31, x32, x33, x34, x35, x36, x37, x38, x39, x40, x41, x42, x43, x44, x45, x46, x47, x48, x49, x50, s1, ⟨r5, k4, b5⟩, rfl⟩
        have z2 : w.heap.size ≤ W2.heap.size := b5.size
        have hbx2 := hp_lt k4
        have r5' : Row W2.drew w.heap.size s1 l5 := r5
        obtain ⟨v3, w3, a3, r3, g3, p3⟩ := put_two (UInt8.ofNat (x.2.size / 256)) (UInt8.ofNat x.2.size) r5' (by show w.heap.size ≤ W2.heap.size; omega) (by omega)
        have z3 := g3.size
        have z3' : W2.heap.size ≤ w3.heap.size := z3
        obtain ⟨v4, w4, a4, r4, g4⟩ := put_text x.2 r3 (by omega) (by simp; omega)
        have k0 : W2.drew.heap[bx]? = some (.cells #[.string x.1, .string x.2] 55) := k4
        have k1 : (W2.drew.alloc (.cells #[.int .u8 (UInt8.ofNat (x.2.size / 256)).toNat, .int .u8 (UInt8.ofNat x.2.size).toNat] 5)).heap[bx]? = some (.cells #[.string x.1, .string x.2] 55) := by rw [Below.heap_alloc _ _ _ (by exact hbx2)]; exact k0
        have k2 : w3.heap[bx]? = some (.cells #[.string x.1, .string x.2] 55) := (g3.block bx hbx2 (fun e2 => row_ne5 r5' k0 (fun cs e => by cases e) e2.symm)).trans k0
        have k3 : w4.heap[bx]? = some (.cells #[.string x.1, .string x.2] 55) := (g4.block bx (by omega) (fun e2 => row_ne5 r3 k2 (fun cs e => by cases e) e2.symm)).trans k2
        have r4' : Row w4 w.heap.size v4 (bytesM (L.take (n + 1))) := by
          have he : bytesM (L.take (n + 1)) = l5 ++ [UInt8.ofNat (x.2.size / 256)] ++ [UInt8.ofNat x.2.size] ++ x.2.toList := by
            rw [List.take_add_one, HX.out.1, ← HX.out.2]
            simp [bytesM, encP]
          rw [he]
          exact r4
        have hBw4 : Below w.heap.size w w4 := (b5.trans (Below.refl _ W2).drew).trans (((Below.refl _ W2.drew).grown g3 (by exact z2) (fun j e => own_base r5' j e)).trans ((Below.refl _ w3).grown g4 (by omega) (fun j e => own_base r3 j e)))
        have HB7 := hide (And.intro k0 (And.intro k1 (And.intro k2 (And.intro k3 (And.intro r4' hBw4)))))
        have HA3 := hide a3
        have HA4 := hide a4
        clear r5 k4 b5 r5' a3 r3 g3 p3 a4 r4 g4 k0 k1 k2 k3 r4' hBw4
        go_wp2_with fail
        refine region_rel (S := fun W : World => W.heap[bx]? = some (.cells #[.string x.1, .string x.2] 55)) (fun a W => ∃ x6 x7 x8 x9 x10 x11 x12 x13 x14 x15 x16 x17 x18 x19 x20 x21 x22 x23 x24 x25 x26 x27 x28 x29 x30 x31 x32 x33 x34 x35 x36 x37 x38 x39 x40 x41 x42 x43 x44 x45 x46 x47 x48 x49 x50 : Value, ∃ s1 : Value, (Row W w.heap.size s1 (bytesM (L.take (n + 1))) ∧ W.heap[bx]? = some (.cells #[.string x.1, .string x.2] 55) ∧ Below w.heap.size w W) ∧ a = { tmps := #[.pointer (some ⟨p, 0, none⟩), undef, .slice none 0 0, s1, .int .i64 n, .pointer (some ⟨bx, 0, none⟩), x6, x7, x8, x9, x10, x11, x12, x13, x14, x15, x16, x17, x18, x19, x20, x21, x22, x23, x24, x25, x26, x27, x28, x29, x30, x31, x32, x33, x34, x35, x36, x37, x38, x39, x40, x41, x42, x43, x44, x45, x46, x47, x48, x49, x50, undef], defers := [] }) (by kernel_rfl) ?any7 ?fin7
        case any7 =>
          have S0 : W2.drew.heap[bx]? = some (.cells #[.string x.1, .string x.2] 55) := HB7.out.1
          refine anyH_take (i := 0) (v := s1) rfl (some 36) rfl (by kernel_rfl) (by kernel_rfl) (by kernel_rfl) (fun _ _ _ h => by cases h.1) rfl (fun w0 hw0 => by first | rfl | kernel_rfl) S0 ?_
          simp only [Act.put, List.setIfInBounds_toArray, List.set_cons_zero, List.set_cons_succ]
          refine anyH_take (i := 1) (v := .pointer (some ⟨bx, 1, none⟩)) rfl (some 37) rfl (by kernel_rfl) (by kernel_rfl) (by kernel_rfl) (fun _ _ _ h => by cases h.1) rfl (fun w0 hw0 => by first | rfl | kernel_rfl) S0 ?_
          simp only [Act.put, List.setIfInBounds_toArray, List.set_cons_zero, List.set_cons_succ]
          refine anyH_take (i := 2) (v := .string x.2) rfl (some 38) rfl (by kernel_rfl) (by kernel_rfl) (by kernel_rfl) (fun _ _ _ h => by cases h.1) rfl (fun w0 hw0 => ex_load rfl rfl (run_load_cell Try.underlying9 rfl (by simp [World.cell?, hw0]))) S0 ?_
          simp only [Act.put, List.setIfInBounds_toArray, List.set_cons_zero, List.set_cons_succ]
          refine anyH_take (i := 3) (v := .int .i64 (x.2.size : Nat)) rfl (some 39) rfl (by kernel_rfl) (by kernel_rfl) (by kernel_rfl) (fun _ _ _ h => by cases h.1) rfl (fun w0 hw0 => ex_len_str rfl rfl) S0 ?_
          simp only [Act.put, List.setIfInBounds_toArray, List.set_cons_zero, List.set_cons_succ]
          refine anyH_take (i := 4) (v := .int .i64 (x.2.size / 256 : Nat)) rfl (some 40) rfl (by kernel_rfl) (by kernel_rfl) (by kernel_rfl) (fun _ _ _ h => by cases h.1) rfl (fun w0 hw0 => ex_shr8 rfl rfl) S0 ?_
          simp only [Act.put, List.setIfInBounds_toArray, List.set_cons_zero, List.set_cons_succ]
          refine anyH_take (i := 5) (v := .int .u8 (UInt8.ofNat (x.2.size / 256)).toNat) rfl (some 41) rfl (by kernel_rfl) (by kernel_rfl) (by kernel_rfl) (fun _ _ _ h => by cases h.1) rfl (fun w0 hw0 => ex_byte rfl rfl) S0 ?_
          simp only [Act.put, List.setIfInBounds_toArray, List.set_cons_zero, List.set_cons_succ]
          refine anyH_take (i := 6) (v := .pointer (some ⟨bx, 1, none⟩)) rfl (some 42) rfl (by kernel_rfl) (by kernel_rfl) (by kernel_rfl) (fun _ _ _ h => by cases h.1) rfl (fun w0 hw0 => by first | rfl | kernel_rfl) S0 ?_
          simp only [Act.put, List.setIfInBounds_toArray, List.set_cons_zero, List.set_cons_succ]
          refine anyH_take (i := 7) (v := .string x.2) rfl (some 43) rfl (by kernel_rfl) (by kernel_rfl) (by kernel_rfl) (fun _ _ _ h => by cases h.1) rfl (fun w0 hw0 => ex_load rfl rfl (run_load_cell Try.underlying9 rfl (by simp [World.cell?, hw0]))) S0 ?_
          simp only [Act.put, List.setIfInBounds_toArray, List.set_cons_zero, List.set_cons_succ]
          refine anyH_take (i := 8) (v := .int .i64 (x.2.size : Nat)) rfl (some 44) rfl (by kernel_rfl) (by kernel_rfl) (by kernel_rfl) (fun _ _ _ h => by cases h.1) rfl (fun w0 hw0 => ex_len_str rfl rfl) S0 ?_
          simp only [Act.put, List.setIfInBounds_toArray, List.set_cons_zero, List.set_cons_succ]
          refine anyH_take (i := 9) (v := .int .u8 (UInt8.ofNat x.2.size).toNat) rfl (some 45) rfl (by kernel_rfl) (by kernel_rfl) (by kernel_rfl) (fun _ _ _ h => by cases h.1) rfl (fun w0 hw0 => ex_byte rfl rfl) S0 ?_
          simp only [Act.put, List.setIfInBounds_toArray, List.set_cons_zero, List.set_cons_succ]
          refine anyH_take (i := 12) (v := .pointer (some ⟨bx, 1, none⟩)) rfl (some 48) rfl (by kernel_rfl) (by kernel_rfl) (by kernel_rfl) (fun _ _ _ h => by cases h.1) rfl (fun w0 hw0 => by first | rfl | kernel_rfl) S0 ?_
          simp only [Act.put, List.setIfInBounds_toArray, List.set_cons_zero, List.set_cons_succ]
          refine anyH_take (i := 13) (v := .string x.2) rfl (some 49) rfl (by kernel_rfl) (by kernel_rfl) (by kernel_rfl) (fun _ _ _ h => by cases h.1) rfl (fun w0 hw0 => ex_load rfl rfl (run_load_cell Try.underlying9 rfl (by simp [World.cell?, hw0]))) S0 ?_
          simp only [Act.put, List.setIfInBounds_toArray, List.set_cons_zero, List.set_cons_succ]
          refine anyH_val (i := 10) (by kernel_rfl) rfl (some 46) rfl rfl (ex_slice (us := #[(0, .int .u8 (UInt8.ofNat (x.2.size / 256)).toNat), (1, .int .u8 (UInt8.ofNat x.2.size).toNat)]) rfl (by simp [Act.eval]) (run_bs2 _ _ _)) HB7.out.2.1 ?_
          simp only [Act.put, List.setIfInBounds_toArray, List.set_cons_zero, List.set_cons_succ]
          refine anyH_val (i := 11) (by kernel_rfl) rfl (some 47) rfl rfl (ex_append2 (t := 30) (t' := 30) rfl rfl rfl HA3.out) HB7.out.2.2.1 ?_
          simp only [Act.put, List.setIfInBounds_toArray, List.set_cons_zero, List.set_cons_succ]
          refine anyH_val (i := 14) (by kernel_rfl) rfl (some 50) rfl rfl (ex_append2 (t := 30) (t' := 9) rfl rfl rfl HA4.out) HB7.out.2.2.2.1 ?_
          simp only [Act.put, List.setIfInBounds_toArray, List.set_cons_zero, List.set_cons_succ]
          refine anyH_val (i := 15) (by kernel_rfl) rfl (some 3) rfl rfl (ex_any rfl rfl) HB7.out.2.2.2.1 ?_
          simp only [Act.put, List.setIfInBounds_toArray, List.set_cons_zero, List.set_cons_succ]
          exact wpAnyH_done (by kernel_rfl) ⟨rfl, _, _, _, _, _, _, _, _, _, _, _, _, _, _, _, _, _, _, _, _, _, _, _, _, _, _, _, _, _, _, _, _, _, _, _, _, _, _, _, _, _, _, _, _, _, _, ⟨HB7.out.2.2.2.2.1, HB7.out.2.2.2.1, HB7.out.2.2.2.2.2⟩, rfl⟩ _
        case fin7 =>
          rintro a W3 ⟨x6, x7, x8, x9, x10, x11, x12, x13, x14, x15, x16, x17, x18, x19, x20, x21, x22, x23, x24, x25, x26, x27, x28, x29, x30, x31, x32, x33, x34, x35, x36, x37, x38, x39, x40, x41, x42, x43, x44, x45, x46, x47, x48, x49, x50, s1, ⟨r5, k4, b5⟩, rfl⟩
          have HE := hide (And.intro r5 b5)
          clear r5 k4 b5
          go_wp2_with fail
          go_roundw
          case rel => exact ⟨n + 1, by omega, by simp, HE.out.1, HE.out.2⟩
          case measure => simp [intOf]; omega
    · obtain rfl : n = m := by omega
      have hlti : ¬ ((n : Int) < n) := by omega
      have ht : L.take n = L := by rw [← HM.out.1, List.take_length]
      rw [ht] at hS
      have HS := hide (And.intro hS hbw)
      clear hS hbw ht hR hrow
      go_wp2_with fail
      go_ret
      exact ⟨_, rfl, HS.out.1, HS.out.2⟩
end Go.Proofs.Ytjdcgndcljmieaa
