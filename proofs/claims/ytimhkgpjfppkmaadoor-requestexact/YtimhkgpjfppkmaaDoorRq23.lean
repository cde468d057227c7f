/- RequestExact: a payload with one attribute more, or without its last one, is none of its verb. -/
import Derived.Test.YtimhkgpjfppkmaaDoorGO
import Derived.Test.YtimhkgpjfppkmaaDoorGL
namespace Go.Proofs.YtimhkgpjfppkmaaDoor
open Go.RowKit Go.Shelf

theorem empty_row (w : World) : (w.alloc (.cells #[] 46)).ownsRow w.heap.size 46 4 (.slice (some ⟨w.heap.size, 0, none⟩) 0 0) 0 [] :=
  ⟨rfl, .inr ⟨w.heap.size, 0, #[], rfl, Nat.le_refl _, World.alloc_heap_new _ _, Nat.le_refl _, by unfold maxLen; omega, rfl, rfl⟩⟩
set_option maxRecDepth 100000 in
set_option maxHeartbeats 8000000 in
theorem requestExact_any (r : Rq) (nm s : ByteArray) (w : World) (hr : RqFits r) (hs1 : nm.size ≤ 9223372036854775807) (hs2 : s.size ≤ 281474976710656) (hG : GlbR w) :
    Calls Tryd.prog 6 #[.agg (rqA r), .agg #[.string nm, .string s]] w fun e w' => e = .returned (.bool true) ∧ Below w.heap.size w w' := by
  obtain ⟨W1, hW1⟩ : ∃ W1, w.alloc (.cells (rqA r) 26) = W1 := ⟨_, rfl⟩
  obtain ⟨W2, hW2⟩ : ∃ W2, W1.alloc (.cells #[.string nm, .string s] 49) = W2 := ⟨_, rfl⟩
  have b1 : Below w.heap.size w W1 := by rw [← hW1]; exact (Below.refl _ w).alloc (Nat.le_refl _) _
  have b2 : Below W1.heap.size W1 W2 := by rw [← hW2]; exact (Below.refl _ W1).alloc (Nat.le_refl _) _
  have z1 : W1.heap.size = w.heap.size + 1 := by rw [← hW1]; simp
  have fp : W2.heap[w.heap.size + 1]? = some (.cells #[.string nm, .string s] 49) := by rw [← hW2, ← z1]; exact World.alloc_heap_new _ _
  have f1 : W1.heap[w.heap.size]? = some (.cells (rqA r) 26) := by rw [← hW1]; exact World.alloc_heap_new _ _
  have fa := (b2.block _ (by omega)).trans f1
  have B2 : Below w.heap.size w W2 := b1.trans (b2.mono b1.size)
  have HEa := hide (encode_any r W2 hr (hG.below B2))
  have HLa := hide (load_rq fa)
  have H2 := hide (And.intro B2 (And.intro fp (And.intro (hG.below B2) True.intro)))
  have HZ := hide (And.intro hs1 hs2)
  rw [← hW1] at hW2
  have HW2 := hide hW2
  rw [← hW2] at HEa HLa
  clear hW1 hW2 b1 b2 z1 fp f1 fa B2 hr hs1 hs2 hG
  go_enter Tryd.func6, Tryd.ntmps6
  go_wp2_with (refine l_load _ HLa.out rfl rfl rfl ?_)
  refine HEa.out.mono ?_
  rintro e w3 ⟨hEa, b3⟩
  rw [HW2.out] at b3 hEa
  rcases hEa with ⟨hra, v, l, rfl, hl, hE⟩ | ⟨hra, rfl⟩
  · by_cases ht : r.text = ⟨#[]⟩
    · have hlen : (encT r).length = 4 := by
        unfold encT elemT charsT
        rw [if_pos ht]
        simp
      have hn : l.length = 4 := by rw [← hlen, ← hl, List.length_map]
      obtain ⟨g, c, rfl⟩ : ∃ g c, v = .slice (some ⟨g, 0, none⟩) 4 c := by
        obtain ⟨_, ⟨_, h0⟩ | ⟨g, c, _, hv, _⟩⟩ := hE.1
        · omega
        · exact ⟨g, c, by rw [hv, hn]⟩
      have hE1 := hE.1
      rw [hn] at hE1
      have B3 : Below w.heap.size w w3 := H2.out.1.trans (b3.mono H2.out.1.size)
      have HE3 := hide hE1
      have H3 := hide (And.intro B3 (And.intro hE hl))
      have H4b := hide b3.size
      have HG3 := hide (H2.out.2.2.1.below b3)
      have b3x := hide (fun k (hk : k < W2.heap.size) => b3.block k hk)
      clear hE hE1 b3 B3 hl HEa HW2 hlen
      go_wp2_with (at_builtin; refine stopR ?_)
      unfold Hid
      refine append_row _ rfl _ _ rfl w3.heap.size W2.heap.size (.slice (some ⟨w3.heap.size, 0, none⟩) 0 0) l rfl (empty_row w3) g c 4 hn rfl (own_same HE3.out (fun k hk => ((Below.refl _ w3).alloc (Nat.le_refl _) _).block k (own_lt HE3.out k hk))) (by decide) (by simp) ?_
      intro v7 w4 h7 b4
      obtain ⟨g7, c7, rfl⟩ : ∃ g7 c7, v7 = .slice (some ⟨g7, 0, none⟩) 4 c7 := by
        obtain ⟨_, ⟨_, h0⟩ | ⟨g, c, _, hv, _⟩⟩ := h7
        · omega
        · exact ⟨g, c, hv⟩
      obtain ⟨x0, x, rest, hlx⟩ : ∃ x0 x rest, l = x0 :: x :: rest := by
        match l, hn with
        | x0 :: x :: rest, _ => exact ⟨x0, x, rest, rfl⟩
      have b34 : Below w3.heap.size w3 w4 := ((Below.refl _ w3).alloc (Nat.le_refl _) _).trans b4
      have hx : x.1 = ⟨1, verbB r.verb, attrsR r, ⟨#[]⟩⟩ := by
        have h1 : (l.map (·.1))[1]? = some x.1 := by rw [hlx]; rfl
        rw [H3.out.2.2, enc_one] at h1
        exact (Option.some.inj h1).symm
      have hoa := (H3.out.2.1.2 x (by rw [hlx]; simp)).1
      rw [hx] at hoa
      dsimp only at hoa
      obtain ⟨m, hm⟩ : ∃ m, (attrsR r).length = m := ⟨_, rfl⟩
      have hm1 : 1 ≤ m := by rw [← hm]; exact attrs_one hra
      have hmk : m ≤ 100000 := by rw [← hm]; have := (attrs_ok hra).1; omega
      rw [hm] at hoa
      obtain ⟨ga, gc, hga⟩ : ∃ ga gc, (x.2.1 = some ⟨ga, 0, none⟩ ∧ x.2.2 = gc) := by
        obtain ⟨_, ⟨_, h0⟩ | ⟨g, c, _, hv, _⟩⟩ := hoa
        · omega
        · injection hv with h1 _ h2
          exact ⟨g, c, h1, h2⟩
      rw [hga.1, hga.2] at hoa
      have hc3 : w3.cell? ⟨g, 6, none⟩ = some (.slice (some ⟨ga, 0, none⟩) m gc) := by
        obtain ⟨g', e, h⟩ := own_cells HE3.out 6 (.slice (some ⟨ga, 0, none⟩) m gc) (by rw [hlx, ← hga.1, ← hga.2, ← hm]; simp [tokC, hx])
        cases e
        exact h
      have hc6 := (b34.cell (p := ⟨g, 6, none⟩) (own_lt HE3.out g rfl)).trans hc3
      have HC3 := hide hc3
      have hpp := (b34.block _ (Nat.lt_of_lt_of_le (Array.getElem?_eq_some_iff.1 H2.out.2.1).1 H4b.out)).trans ((b3x.out _ (Array.getElem?_eq_some_iff.1 H2.out.2.1).1).trans H2.out.2.1)
      have HS := hide (And.intro hpp hc6)
      have H4 := hide (And.intro h7 (And.intro b34 (And.intro hoa (And.intro hx (And.intro hm (And.intro hm1 (And.intro hmk hlx)))))))
      clear hpp hc6 hc3 h7 b34 b4 hoa hx hm hm1 hmk hlx hga
      go_wp2_with fail
      obtain ⟨V0, hV0⟩ : ∃ V, w4.drew = V := ⟨_, rfl⟩
      have c0 : Below w4.heap.size w4 V0 := by rw [← hV0]; exact (Below.refl _ _).drew
      have hz0 : V0.heap.size = w4.heap.size := by rw [← hV0]; rfl
      have hd0 : V0.heap = w4.heap := by rw [← hV0]; rfl
      refine region_relA (S := fun V => V.heap[w.heap.size + 1]? = some (.cells #[.string nm, .string s] 49) ∧ V.cell? ⟨g, 6, none⟩ = some (.slice (some ⟨ga, 0, none⟩) m gc)) (fun a0 a W => ∃ (g2 : Option Addr) (c2 : Nat) (W0 : World) (xx : Nat → Value), (W0.ownsRow w4.heap.size 49 2 (.slice g2 (m + 1) c2) (m + 1) (attrCells (attrsR r ++ [(nm, s)])) ∧ Below w4.heap.size w4 W0 ∧ W = W0.setCell ⟨g7, 6, none⟩ (.slice g2 (m + 1) c2)) ∧ a = ⟨putA a0.tmps [35, 36, 37, 38, 39, 40, 41, 42, 43, 44, 45, 46] xx, a0.defers⟩) (by kernel_rfl) ?any4 ?fin4
      case any4 =>
        rw [hV0]
        have s0 : V0.heap[w.heap.size + 1]? = some (.cells #[.string nm, .string s] 49) ∧ V0.cell? ⟨g, 6, none⟩ = some (.slice (some ⟨ga, 0, none⟩) m gc) := by rw [hd0]; exact ⟨HS.out.1, by simp only [World.cell?, hd0]; exact HS.out.2⟩
        refine anyH_take (i := 0) (v := .slice (some ⟨g7, 0, none⟩) 4 c7) rfl (some 35) rfl (by kernel_rfl) (by kernel_rfl) (by kernel_rfl) (fun _ _ _ h => by cases h.1) (by kernel_rfl) (fun w0 hw0 => by first | rfl | kernel_rfl) s0 ?_
        simp only [Act.put, List.setIfInBounds_toArray, List.set_cons_zero, List.set_cons_succ]
        refine anyH_take (i := 2) (v := .slice (some ⟨g, 0, none⟩) 4 c) rfl (some 37) rfl (by kernel_rfl) (by kernel_rfl) (by kernel_rfl) (fun _ _ _ h => by cases h.1) (by kernel_rfl) (fun w0 hw0 => by first | rfl | kernel_rfl) s0 ?_
        simp only [Act.put, List.setIfInBounds_toArray, List.set_cons_zero, List.set_cons_succ]
        refine anyH_take (i := 3) (v := .pointer (some ⟨g, 4, none⟩)) rfl (some 38) rfl (by kernel_rfl) (by kernel_rfl) (by kernel_rfl) (fun _ _ _ h => by cases h.1) (by kernel_rfl) (fun w0 hw0 => by first | rfl | kernel_rfl) s0 ?_
        simp only [Act.put, List.setIfInBounds_toArray, List.set_cons_zero, List.set_cons_succ]
        refine anyH_take (i := 4) (v := .pointer (some ⟨g, 6, none⟩)) rfl (some 39) rfl (by kernel_rfl) (by kernel_rfl) (by kernel_rfl) (fun _ _ _ h => by cases h.1) (by kernel_rfl) (fun w0 hw0 => by first | rfl | kernel_rfl) s0 ?_
        simp only [Act.put, List.setIfInBounds_toArray, List.set_cons_zero, List.set_cons_succ]
        refine anyH_take (i := 5) (v := .slice (some ⟨ga, 0, none⟩) m gc) rfl (some 40) rfl (by kernel_rfl) (by kernel_rfl) (by kernel_rfl) (fun _ _ _ h => by cases h.1) (by kernel_rfl) (fun w0 hw0 => ex_load rfl rfl (ld44 hw0.2)) s0 ?_
        simp only [Act.put, List.setIfInBounds_toArray, List.set_cons_zero, List.set_cons_succ]
        refine anyH_take (i := 7) (v := .agg #[.string nm, .string s]) rfl (some 42) rfl (by kernel_rfl) (by kernel_rfl) (by kernel_rfl) (fun _ _ _ h => by cases h.1) (by kernel_rfl) (fun w0 hw0 => ex_load rfl rfl (ld49 hw0.1)) s0 ?_
        simp only [Act.put, List.setIfInBounds_toArray, List.set_cons_zero, List.set_cons_succ]
        have hB0 : w4.heap.size ≤ V0.heap.size := by rw [hz0]; exact Nat.le_refl _
        have keepS : ∀ V, Below w4.heap.size V0 V → V.heap[w.heap.size + 1]? = some (.cells #[.string nm, .string s] 49) ∧ V.cell? ⟨g, 6, none⟩ = some (.slice (some ⟨ga, 0, none⟩) m gc) := fun V hV => ⟨(hV.block _ (Array.getElem?_eq_some_iff.1 HS.out.1).1).trans s0.1, (hV.cell (p := ⟨g, _, none⟩) (Nat.lt_of_lt_of_le (own_lt HE3.out g rfl) H4.out.2.1.size)).trans s0.2⟩
        have hmk' := H4.out.2.2.2.2.2.2.1
        have b40 : Below w4.heap.size w4 V0 := c0
        obtain ⟨_, ⟨_, hq0⟩ | ⟨_, _, cur, hv7, hg7, hf7, hn7, _, hsz7, _⟩⟩ := H4.out.1
        · omega
        cases hv7
        have cell7 : ∀ V, Below w4.heap.size V0 V → V.cell? ⟨g7, 6, none⟩ = some (cur.getD 6 undef) ∧ V.frozen? ⟨g7, 6, none⟩ = false := fun V hV => by
          have hlt := (Array.getElem?_eq_some_iff.1 hf7).1
          have h1 : V.heap[g7]? = some (.cells cur 46) := (hV.block g7 hlt).trans (by rw [hd0]; exact hf7)
          refine ⟨?_, by simp [World.frozen?, h1]⟩
          simp only [World.cell?, h1]
          have : 6 < cur.size := by omega
          simp [this]
        have setS : ∀ V, Below w4.heap.size V0 V → ∀ u, (V.setCell ⟨g7, 6, none⟩ u).heap[w.heap.size + 1]? = some (.cells #[.string nm, .string s] 49) ∧ (V.setCell ⟨g7, 6, none⟩ u).cell? ⟨g, 6, none⟩ = some (.slice (some ⟨ga, 0, none⟩) m gc) := fun V hV u => by
          have hgl := own_lt HE3.out g rfl
          have hwl := (Array.getElem?_eq_some_iff.1 H2.out.2.1).1
          have h3 := H4b.out
          have e1 : (V.setCell ⟨g7, 6, none⟩ u).heap[w.heap.size + 1]? = V.heap[w.heap.size + 1]? := Below.heap_setCell _ _ _ _ (fun e => by have e : w.heap.size + 1 = g7 := e; omega)
          have e2 : (V.setCell ⟨g7, 6, none⟩ u).heap[g]? = V.heap[g]? := Below.heap_setCell _ _ _ _ (fun e => by have e : g = g7 := e; omega)
          refine ⟨e1.trans (keepS V hV).1, ?_⟩
          have h4 := (keepS V hV).2
          simp only [World.cell?, e2] at h4 ⊢
          exact h4
        refine anyH_two (i := 1) (j := 8) (by kernel_rfl) ?_ ?_
        · have bA : Below w4.heap.size V0 (V0.alloc (.cells #[] 49)) := (Below.refl _ V0).alloc hB0 _
          refine op_val rfl (some 36) rfl (by kernel_rfl) (ex_sliceK (us := #[]) rfl (by simp) (bld0 V0)) ⟨keepS _ bA, ?_⟩
          simp only [Act.put, List.setIfInBounds_toArray, List.set_cons_zero, List.set_cons_succ]
          have eA : (V0.alloc (.cells #[] 49)).ownsRow w4.heap.size 49 2 (.slice (some ⟨V0.heap.size, 0, none⟩) 0 0) 0 [] := by rw [← hz0]; exact empty_attrs V0
          have hoaV : ∀ V, Below w4.heap.size V0 V → V.ownsRow W2.heap.size 49 2 (.slice (some ⟨ga, 0, none⟩) m gc) m (attrCells (attrsR r)) := fun V hV => own_same H4.out.2.2.1 (fun k hk => by have hl := own_lt H4.out.2.2.1 k hk; have h1 := H4.out.2.1.block k hl; rw [hV.block k (Nat.lt_of_lt_of_le hl H4.out.2.1.size), hd0, h1])
          refine anyH_two (i := 6) (j := 8) (by kernel_rfl) ?_ ?_
          · obtain ⟨g1, c1, U1, hap1, ho1, hb1, _⟩ := pushAll (T := 44) (al := attrsR r) eA (by simp; omega) H4.out.2.2.2.2.1 H4.out.2.2.2.2.2.1 hmk' (hoaV _ bA)
            have bU1 : Below w4.heap.size V0 U1 := bA.trans hb1
            have hsU1 : w4.heap.size ≤ U1.heap.size := by have := bU1.size; omega
            refine op_val rfl (some 41) rfl (by kernel_rfl) (ex_appN rfl rfl rfl hap1) ⟨keepS _ bU1, ?_⟩
            simp only [Act.put, List.setIfInBounds_toArray, List.set_cons_zero, List.set_cons_succ]
            have bU2 : Below w4.heap.size V0 (U1.alloc (.cells #[.string nm, .string s] 49)) := bU1.alloc hsU1 _
            refine anyH_val (i := 8) (by kernel_rfl) rfl (some 43) rfl (by kernel_rfl) (ex_sliceK (us := #[(0, .agg #[.string nm, .string s])]) rfl (by simp [Act.eval]) (bld1 nm s U1)) (keepS _ bU2) ?_
            simp only [Act.put, List.setIfInBounds_toArray, List.set_cons_zero, List.set_cons_succ]
            obtain ⟨g9, c9, U9, hap9, ho9, hb9⟩ := pushB (T := 44) (q := U1.heap.size) (al := attrsR r) nm s (own_same ho1 (fun k hk => ((Below.refl _ U1).alloc (Nat.le_refl _) _).block k (own_lt ho1 k hk))) (by have := bU2.size; omega) hmk' (World.alloc_heap_new _ _)
            have b9 : Below w4.heap.size V0 U9 := bU2.trans hb9
            refine anyH_val (i := 9) (by kernel_rfl) rfl (some 44) rfl (by kernel_rfl) (ex_appN rfl rfl rfl hap9) (keepS _ b9) ?_
            simp only [Act.put, List.setIfInBounds_toArray, List.set_cons_zero, List.set_cons_succ]
            refine anyH_val (i := 10) (by kernel_rfl) rfl (some 45) rfl (by kernel_rfl) (v := .pointer (some ⟨g7, 4, none⟩)) (w' := U9) (by first | rfl | kernel_rfl) (keepS _ b9) ?_
            simp only [Act.put, List.setIfInBounds_toArray, List.set_cons_zero, List.set_cons_succ]
            refine anyH_val (i := 11) (by kernel_rfl) rfl (some 46) rfl (by kernel_rfl) (v := .pointer (some ⟨g7, 6, none⟩)) (w' := U9) (by first | rfl | kernel_rfl) (keepS _ b9) ?_
            simp only [Act.put, List.setIfInBounds_toArray, List.set_cons_zero, List.set_cons_succ]
            refine anyH_skip (i := 12) (by kernel_rfl) rfl none rfl (by kernel_rfl) (ex_store rfl rfl rfl (run_store44 (cell7 _ b9).1 (cell7 _ b9).2)) (setS _ b9 _) ?_
            simp only [Act.put]
            exact wpAnyH_done (by kernel_rfl) ⟨rfl, g9, c9, U9, fill ⟨ho9, b40.trans b9, rfl⟩ (by kernel_rfl)⟩ _
          
          · have bU1 : Below w4.heap.size V0 ((V0.alloc (.cells #[] 49)).alloc (.cells #[.string nm, .string s] 49)) := bA.alloc (by simp; omega) _
            refine op_val rfl (some 43) rfl (by kernel_rfl) (ex_sliceK (us := #[(0, .agg #[.string nm, .string s])]) rfl (by simp [Act.eval]) (bld1 nm s _)) ⟨keepS _ bU1, ?_⟩
            simp only [Act.put, List.setIfInBounds_toArray, List.set_cons_zero, List.set_cons_succ]
            obtain ⟨g1, c1, U2, hap1, ho1, hb1, hk1⟩ := pushAll (T := 44) (al := attrsR r) (own_same eA (fun k hk => ((Below.refl _ (V0.alloc (.cells #[] 49))).alloc (Nat.le_refl _) _).block k (own_lt eA k hk))) (by have := bU1.size; omega) H4.out.2.2.2.2.1 H4.out.2.2.2.2.2.1 hmk' (hoaV _ bU1)
            have bU2 : Below w4.heap.size V0 U2 := bU1.trans hb1
            have hq2 : U2.heap[(V0.alloc (.cells #[] 49)).heap.size]? = some (.cells #[.string nm, .string s] 49) := (hk1 _ (by simp) (fun e => by injection e with e; simp at e)).trans (World.alloc_heap_new _ _)
            refine anyH_val (i := 6) (by kernel_rfl) rfl (some 41) rfl (by kernel_rfl) (ex_appN rfl rfl rfl hap1) (keepS _ bU2) ?_
            simp only [Act.put, List.setIfInBounds_toArray, List.set_cons_zero, List.set_cons_succ]
            obtain ⟨g9, c9, U9, hap9, ho9, hb9⟩ := pushB (T := 44) (q := (V0.alloc (.cells #[] 49)).heap.size) (al := attrsR r) nm s ho1 (by have := bU2.size; omega) hmk' hq2
            have b9 : Below w4.heap.size V0 U9 := bU2.trans hb9
            refine anyH_val (i := 9) (by kernel_rfl) rfl (some 44) rfl (by kernel_rfl) (ex_appN rfl rfl rfl hap9) (keepS _ b9) ?_
            simp only [Act.put, List.setIfInBounds_toArray, List.set_cons_zero, List.set_cons_succ]
            refine anyH_val (i := 10) (by kernel_rfl) rfl (some 45) rfl (by kernel_rfl) (v := .pointer (some ⟨g7, 4, none⟩)) (w' := U9) (by first | rfl | kernel_rfl) (keepS _ b9) ?_
            simp only [Act.put, List.setIfInBounds_toArray, List.set_cons_zero, List.set_cons_succ]
            refine anyH_val (i := 11) (by kernel_rfl) rfl (some 46) rfl (by kernel_rfl) (v := .pointer (some ⟨g7, 6, none⟩)) (w' := U9) (by first | rfl | kernel_rfl) (keepS _ b9) ?_
            simp only [Act.put, List.setIfInBounds_toArray, List.set_cons_zero, List.set_cons_succ]
            refine anyH_skip (i := 12) (by kernel_rfl) rfl none rfl (by kernel_rfl) (ex_store rfl rfl rfl (run_store44 (cell7 _ b9).1 (cell7 _ b9).2)) (setS _ b9 _) ?_
            simp only [Act.put]
            exact wpAnyH_done (by kernel_rfl) ⟨rfl, g9, c9, U9, fill ⟨ho9, b40.trans b9, rfl⟩ (by kernel_rfl)⟩ _
        · have bA : Below w4.heap.size V0 (V0.alloc (.cells #[.string nm, .string s] 49)) := (Below.refl _ V0).alloc hB0 _
          refine op_val rfl (some 43) rfl (by kernel_rfl) (ex_sliceK (us := #[(0, .agg #[.string nm, .string s])]) rfl (by simp [Act.eval]) (bld1 nm s V0)) ⟨keepS _ bA, ?_⟩
          simp only [Act.put, List.setIfInBounds_toArray, List.set_cons_zero, List.set_cons_succ]
          have bU1 : Below w4.heap.size V0 ((V0.alloc (.cells #[.string nm, .string s] 49)).alloc (.cells #[] 49)) := bA.alloc (by simp; omega) _
          have eB := own_less (empty_attrs (V0.alloc (.cells #[.string nm, .string s] 49))) (show w4.heap.size ≤ _ by simp; omega)
          refine anyH_val (i := 1) (by kernel_rfl) rfl (some 36) rfl (by kernel_rfl) (ex_sliceK (us := #[]) rfl (by simp) (bld0 _)) (keepS _ bU1) ?_
          simp only [Act.put, List.setIfInBounds_toArray, List.set_cons_zero, List.set_cons_succ]
          have hoaV : ∀ V, Below w4.heap.size V0 V → V.ownsRow W2.heap.size 49 2 (.slice (some ⟨ga, 0, none⟩) m gc) m (attrCells (attrsR r)) := fun V hV => own_same H4.out.2.2.1 (fun k hk => by have hl := own_lt H4.out.2.2.1 k hk; have h1 := H4.out.2.1.block k hl; rw [hV.block k (Nat.lt_of_lt_of_le hl H4.out.2.1.size), hd0, h1])
          obtain ⟨g1, c1, U2, hap1, ho1, hb1, hk1⟩ := pushAll (T := 44) (al := attrsR r) eB (by have := bU1.size; omega) H4.out.2.2.2.2.1 H4.out.2.2.2.2.2.1 hmk' (hoaV _ bU1)
          have bU2 : Below w4.heap.size V0 U2 := bU1.trans hb1
          have hq2 : U2.heap[V0.heap.size]? = some (.cells #[.string nm, .string s] 49) := (hk1 _ (by simp; omega) (fun e => by injection e with e; simp at e)).trans (keep_alloc (World.alloc_heap_new _ _))
          refine anyH_val (i := 6) (by kernel_rfl) rfl (some 41) rfl (by kernel_rfl) (ex_appN rfl rfl rfl hap1) (keepS _ bU2) ?_
          simp only [Act.put, List.setIfInBounds_toArray, List.set_cons_zero, List.set_cons_succ]
          obtain ⟨g9, c9, U9, hap9, ho9, hb9⟩ := pushB (T := 44) (q := V0.heap.size) (al := attrsR r) nm s ho1 (by have := bU2.size; omega) hmk' hq2
          have b9 : Below w4.heap.size V0 U9 := bU2.trans hb9
          refine anyH_val (i := 9) (by kernel_rfl) rfl (some 44) rfl (by kernel_rfl) (ex_appN rfl rfl rfl hap9) (keepS _ b9) ?_
          simp only [Act.put, List.setIfInBounds_toArray, List.set_cons_zero, List.set_cons_succ]
          refine anyH_val (i := 10) (by kernel_rfl) rfl (some 45) rfl (by kernel_rfl) (v := .pointer (some ⟨g7, 4, none⟩)) (w' := U9) (by first | rfl | kernel_rfl) (keepS _ b9) ?_
          simp only [Act.put, List.setIfInBounds_toArray, List.set_cons_zero, List.set_cons_succ]
          refine anyH_val (i := 11) (by kernel_rfl) rfl (some 46) rfl (by kernel_rfl) (v := .pointer (some ⟨g7, 6, none⟩)) (w' := U9) (by first | rfl | kernel_rfl) (keepS _ b9) ?_
          simp only [Act.put, List.setIfInBounds_toArray, List.set_cons_zero, List.set_cons_succ]
          refine anyH_skip (i := 12) (by kernel_rfl) rfl none rfl (by kernel_rfl) (ex_store rfl rfl rfl (run_store44 (cell7 _ b9).1 (cell7 _ b9).2)) (setS _ b9 _) ?_
          simp only [Act.put]
          exact wpAnyH_done (by kernel_rfl) ⟨rfl, g9, c9, U9, fill ⟨ho9, b40.trans b9, rfl⟩ (by kernel_rfl)⟩ _
      rintro a W ⟨g2, c2, W0, xx, ⟨h1, h2, rfl⟩, rfl⟩
      obtain ⟨W5, hW5⟩ : ∃ W5, W0.setCell ⟨g7, 6, none⟩ (.slice g2 (m + 1) c2) = W5 := ⟨_, rfl⟩
      have gb7 : w3.heap.size ≤ g7 := own_base H4.out.1 g7 rfl
      have b30 : Below w3.heap.size w3 W0 := H4.out.2.1.trans (h2.mono H4.out.2.1.size)
      have b35 : Below w3.heap.size w3 W5 := by rw [← hW5]; exact b30.setCell (p := ⟨g7, 6, none⟩) gb7 _
      have M5 : ElRow W2.heap.size W5 (.slice (some ⟨g7, 0, none⟩) 4 c7) (x0 :: ({ x.1 with attrs := attrsR r ++ [(nm, s)] }, g2, c2) :: rest) := by
        have hlx := H4.out.2.2.2.2.2.2.2
        have hm := H4.out.2.2.2.2.1
        have hal : (attrsR r ++ [(nm, s)]).length = m + 1 := by simp [hm]
        have e7 : ElRow W2.heap.size W0 (.slice (some ⟨g7, 0, none⟩) 4 c7) (x0 :: x :: rest) := by
          rw [← hlx]
          exact row_new H3.out.2.1 b30 (own_same H4.out.1 (fun k hk => h2.block k (own_lt H4.out.1 k hk))) hn H4b.out
        have h := elRow_set (gc := c2) (al := attrsR r ++ [(nm, s)]) e7 (by rw [hal]; exact own_less h1 (Nat.le_trans H4b.out H4.out.2.1.size)) (sized_more (e7.2 x (by simp)).2 (by rw [H4.out.2.2.2.1]) (by rw [hm]; exact H4.out.2.2.2.2.2.2.1) HZ.out.1 (by have := HZ.out.2; omega))
        rw [hal, hW5] at h
        exact h
      have H5 := hide (And.intro b35 M5)
      have HE5 := hide (own_same HE3.out (fun k hk => b35.block k (own_lt HE3.out k hk)))
      clear b35 M5 b30 gb7 h1 h2
      rw [hW5]
      clear hW5
      simp only [putA, List.foldl_cons, List.foldl_nil, List.setIfInBounds_toArray, List.set_cons_zero, List.set_cons_succ]
      go_wp2_with (at_builtin; refine stopR ?_)
      unfold Hid
      refine append_row _ rfl _ _ rfl W5.heap.size W2.heap.size (.slice (some ⟨W5.heap.size, 0, none⟩) 0 0) l rfl (empty_row W5) g c 4 hn rfl (own_same HE5.out (fun k hk => ((Below.refl _ W5).alloc (Nat.le_refl _) _).block k (own_lt HE5.out k hk))) (by decide) (by simp) ?_
      intro v8 w6 h8 b6
      obtain ⟨g8, c8, rfl⟩ : ∃ g8 c8, v8 = .slice (some ⟨g8, 0, none⟩) 4 c8 := by
        obtain ⟨_, ⟨_, h0⟩ | ⟨g, c, _, hv, _⟩⟩ := h8
        · omega
        · exact ⟨g, c, hv⟩
      have b56 : Below W5.heap.size W5 w6 := ((Below.refl _ W5).alloc (Nat.le_refl _) _).trans b6
      have b36 : Below w3.heap.size w3 w6 := H5.out.1.trans (b56.mono H5.out.1.size)
      have hs6 : w6.cell? ⟨g, 6, none⟩ = some (.slice (some ⟨ga, 0, none⟩) m gc) := (b36.cell (p := ⟨g, _, none⟩) (own_lt HE3.out g rfl)).trans HC3.out
      have H6 := hide (And.intro h8 (And.intro b56 (And.intro b36 hs6)))
      clear h8 b56 b36 hs6 b6
      go_wp2_with fail
      obtain ⟨V0, hV0⟩ : ∃ V, w6.drew = V := ⟨_, rfl⟩
      have c0 : Below w6.heap.size w6 V0 := by rw [← hV0]; exact (Below.refl _ _).drew
      have hd0 : V0.heap = w6.heap := by rw [← hV0]; rfl
      have s0 : V0.cell? ⟨g, 6, none⟩ = some (.slice (some ⟨ga, 0, none⟩) m gc) := by simp only [World.cell?, hd0]; exact H6.out.2.2.2
      refine region_relA (S := fun V => V.cell? ⟨g, 6, none⟩ = some (.slice (some ⟨ga, 0, none⟩) m gc)) (fun a0 a W => ∃ (xx : Nat → Value), W = V0.setCell ⟨g8, 6, none⟩ (.slice (some ⟨ga, 0, none⟩) (m - 1) gc) ∧ a = ⟨putA a0.tmps [50, 51, 52, 53, 54, 55, 56, 57, 58, 59, 60, 61, 62, 63] xx, a0.defers⟩) (by kernel_rfl) ?anyb4 ?finb4
      case anyb4 =>
        rw [hV0]
        have hm1 := H4.out.2.2.2.2.2.1
        have hmk := H4.out.2.2.2.2.2.2.1
        have hmc := own_cap H4.out.2.2.1
        refine anyH_take (i := 0) (v := .slice (some ⟨g8, 0, none⟩) 4 c8) rfl (some 50) rfl (by kernel_rfl) (by kernel_rfl) (by kernel_rfl) (fun _ _ _ h => by cases h.1) (by kernel_rfl) (fun w0 hw0 => by first | rfl | kernel_rfl) s0 ?_
        simp only [Act.put, List.setIfInBounds_toArray, List.set_cons_zero, List.set_cons_succ]
        refine anyH_take (i := 1) (v := .slice (some ⟨g, 0, none⟩) 4 c) rfl (some 51) rfl (by kernel_rfl) (by kernel_rfl) (by kernel_rfl) (fun _ _ _ h => by cases h.1) (by kernel_rfl) (fun w0 hw0 => by first | rfl | kernel_rfl) s0 ?_
        simp only [Act.put, List.setIfInBounds_toArray, List.set_cons_zero, List.set_cons_succ]
        refine anyH_take (i := 2) (v := .pointer (some ⟨g, 4, none⟩)) rfl (some 52) rfl (by kernel_rfl) (by kernel_rfl) (by kernel_rfl) (fun _ _ _ h => by cases h.1) (by kernel_rfl) (fun w0 hw0 => by first | rfl | kernel_rfl) s0 ?_
        simp only [Act.put, List.setIfInBounds_toArray, List.set_cons_zero, List.set_cons_succ]
        refine anyH_take (i := 3) (v := .pointer (some ⟨g, 6, none⟩)) rfl (some 53) rfl (by kernel_rfl) (by kernel_rfl) (by kernel_rfl) (fun _ _ _ h => by cases h.1) (by kernel_rfl) (fun w0 hw0 => by first | rfl | kernel_rfl) s0 ?_
        simp only [Act.put, List.setIfInBounds_toArray, List.set_cons_zero, List.set_cons_succ]
        refine anyH_take (i := 4) (v := .slice (some ⟨ga, 0, none⟩) m gc) rfl (some 54) rfl (by kernel_rfl) (by kernel_rfl) (by kernel_rfl) (fun _ _ _ h => by cases h.1) (by kernel_rfl) (fun w0 hw0 => ex_load rfl rfl (ld44 hw0)) s0 ?_
        simp only [Act.put, List.setIfInBounds_toArray, List.set_cons_zero, List.set_cons_succ]
        refine anyH_take (i := 5) (v := .slice (some ⟨g, 0, none⟩) 4 c) rfl (some 55) rfl (by kernel_rfl) (by kernel_rfl) (by kernel_rfl) (fun _ _ _ h => by cases h.1) (by kernel_rfl) (fun w0 hw0 => by first | rfl | kernel_rfl) s0 ?_
        simp only [Act.put, List.setIfInBounds_toArray, List.set_cons_zero, List.set_cons_succ]
        refine anyH_take (i := 6) (v := .pointer (some ⟨g, 4, none⟩)) rfl (some 56) rfl (by kernel_rfl) (by kernel_rfl) (by kernel_rfl) (fun _ _ _ h => by cases h.1) (by kernel_rfl) (fun w0 hw0 => by first | rfl | kernel_rfl) s0 ?_
        simp only [Act.put, List.setIfInBounds_toArray, List.set_cons_zero, List.set_cons_succ]
        refine anyH_take (i := 7) (v := .pointer (some ⟨g, 6, none⟩)) rfl (some 57) rfl (by kernel_rfl) (by kernel_rfl) (by kernel_rfl) (fun _ _ _ h => by cases h.1) (by kernel_rfl) (fun w0 hw0 => by first | rfl | kernel_rfl) s0 ?_
        simp only [Act.put, List.setIfInBounds_toArray, List.set_cons_zero, List.set_cons_succ]
        refine anyH_take (i := 8) (v := .slice (some ⟨ga, 0, none⟩) m gc) rfl (some 58) rfl (by kernel_rfl) (by kernel_rfl) (by kernel_rfl) (fun _ _ _ h => by cases h.1) (by kernel_rfl) (fun w0 hw0 => ex_load rfl rfl (ld44 hw0)) s0 ?_
        simp only [Act.put, List.setIfInBounds_toArray, List.set_cons_zero, List.set_cons_succ]
        refine anyH_take (i := 9) (v := .int .i64 m) rfl (some 59) rfl (by kernel_rfl) (by kernel_rfl) (by kernel_rfl) (fun _ _ _ h => by cases h.1) (by kernel_rfl) (fun w0 hw0 => ex_lenA rfl rfl) s0 ?_
        simp only [Act.put, List.setIfInBounds_toArray, List.set_cons_zero, List.set_cons_succ]
        refine anyH_take (i := 10) (v := .int .i64 ((m - 1 : Nat))) rfl (some 60) rfl (by kernel_rfl) (by kernel_rfl) (by kernel_rfl) (fun _ _ _ h => by cases h.1) (by kernel_rfl) (fun w0 hw0 => ex_subA rfl rfl hm1 (by omega)) s0 ?_
        simp only [Act.put, List.setIfInBounds_toArray, List.set_cons_zero, List.set_cons_succ]
        refine anyH_take (i := 11) (v := .slice (some ⟨ga, 0, none⟩) (m - 1) gc) rfl (some 61) rfl (by kernel_rfl) (by kernel_rfl) (by kernel_rfl) (fun _ _ _ h => by cases h.1) (by kernel_rfl) (fun w0 hw0 => ex_loA rfl rfl rfl (by omega)) s0 ?_
        simp only [Act.put, List.setIfInBounds_toArray, List.set_cons_zero, List.set_cons_succ]
        refine anyH_take (i := 12) (v := .pointer (some ⟨g8, 4, none⟩)) rfl (some 62) rfl (by kernel_rfl) (by kernel_rfl) (by kernel_rfl) (fun _ _ _ h => by cases h.1) (by kernel_rfl) (fun w0 hw0 => by first | rfl | kernel_rfl) s0 ?_
        simp only [Act.put, List.setIfInBounds_toArray, List.set_cons_zero, List.set_cons_succ]
        refine anyH_take (i := 13) (v := .pointer (some ⟨g8, 6, none⟩)) rfl (some 63) rfl (by kernel_rfl) (by kernel_rfl) (by kernel_rfl) (fun _ _ _ h => by cases h.1) (by kernel_rfl) (fun w0 hw0 => by first | rfl | kernel_rfl) s0 ?_
        simp only [Act.put, List.setIfInBounds_toArray, List.set_cons_zero, List.set_cons_succ]
        obtain ⟨_, ⟨_, hq0⟩ | ⟨_, _, cur, hv8, hg8, hf8, hn8, _, hsz8, _⟩⟩ := H6.out.1
        · omega
        cases hv8
        have hk8 : V0.heap[g8]? = some (.cells cur 46) := by rw [hd0]; exact hf8
        have hc8 : V0.cell? ⟨g8, 6, none⟩ = some (cur.getD 6 undef) := by
          simp only [World.cell?, hk8]
          have : 6 < cur.size := by omega
          simp [this]
        have hz8 : V0.frozen? ⟨g8, 6, none⟩ = false := by simp [World.frozen?, hk8]
        have hS8 : (V0.setCell ⟨g8, 6, none⟩ (.slice (some ⟨ga, 0, none⟩) (m - 1) gc)).cell? ⟨g, 6, none⟩ = some (.slice (some ⟨ga, 0, none⟩) m gc) := by
          have hgl := own_lt HE3.out g rfl
          have h5 := H5.out.1.size
          have e2 : (V0.setCell ⟨g8, 6, none⟩ (.slice (some ⟨ga, 0, none⟩) (m - 1) gc)).heap[g]? = V0.heap[g]? := Below.heap_setCell _ _ _ _ (fun e => by have e : g = g8 := e; omega)
          have h4 := s0
          simp only [World.cell?, e2] at h4 ⊢
          exact h4
        refine anyH_skip (i := 14) (by kernel_rfl) rfl none rfl (by kernel_rfl) (ex_store rfl rfl rfl (run_store44 hc8 hz8)) hS8 ?_
        simp only [Act.put]
        exact wpAnyH_done (by kernel_rfl) ⟨rfl, fill rfl (by kernel_rfl)⟩ _
      rintro a W ⟨xy, rfl, rfl⟩
      obtain ⟨W7, hW7⟩ : ∃ W7, V0.setCell ⟨g8, 6, none⟩ (.slice (some ⟨ga, 0, none⟩) (m - 1) gc) = W7 := ⟨_, rfl⟩
      have gb8 : W5.heap.size ≤ g8 := own_base H6.out.1 g8 rfl
      have b50 : Below W5.heap.size W5 V0 := H6.out.2.1.trans (c0.mono H6.out.2.1.size)
      have b57 : Below W5.heap.size W5 W7 := by rw [← hW7]; exact b50.setCell (p := ⟨g8, 6, none⟩) gb8 _
      have b37 : Below w3.heap.size w3 W7 := H5.out.1.trans (b57.mono H5.out.1.size)
      have b30 : Below w3.heap.size w3 V0 := H5.out.1.trans (b50.mono H5.out.1.size)
      have L7 : ElRow W2.heap.size W7 (.slice (some ⟨g8, 0, none⟩) 4 c8) (x0 :: ({ x.1 with attrs := (attrsR r).take (m - 1) }, some ⟨ga, 0, none⟩, gc) :: rest) := by
        have hlx := H4.out.2.2.2.2.2.2.2
        have hm := H4.out.2.2.2.2.1
        have hal : ((attrsR r).take (m - 1)).length = m - 1 := by rw [List.length_take, hm]; omega
        have e8 : ElRow W2.heap.size V0 (.slice (some ⟨g8, 0, none⟩) 4 c8) (x0 :: x :: rest) := by
          rw [← hlx]
          exact row_new H3.out.2.1 b30 (own_same H6.out.1 (fun k hk => c0.block k (own_lt H6.out.1 k hk))) hn (Nat.le_trans H4b.out H5.out.1.size)
        have hoa := own_prefix (own_same H4.out.2.2.1 (fun k hk => b30.block k (own_lt H4.out.2.2.1 k hk))) (show m - 1 ≤ m by omega)
        have h := elRow_set (gc := gc) (al := (attrsR r).take (m - 1)) e8 (by rw [hal]; exact hoa) (sized_less (e8.2 x (by simp)).2 (by rw [H4.out.2.2.2.1]) (m - 1))
        rw [hal, hW7] at h
        exact h
      have H7 := hide (And.intro b37 (And.intro (H5.out.2.below b57) L7))
      clear b37 b57 b50 b30 gb8 L7 c0 hd0 s0 hV0
      rw [hW7]
      clear hW7
      simp only [putA, List.foldl_cons, List.foldl_nil, List.setIfInBounds_toArray, List.set_cons_zero, List.set_cons_succ]
      have hl' : (x0 :: x :: rest).map (·.1) = encT r := by rw [← H4.out.2.2.2.2.2.2.2]; exact H3.out.2.2
      have hr2 : (x0 :: x :: rest).length = 4 := by rw [← H4.out.2.2.2.2.2.2.2]; exact hn
      simp only [List.length_cons] at hr2
      have HG7 := hide (HG3.out.below H7.out.1)
      have HN8 := hide (fun (V : World) (b : Below W7.heap.size W7 V) => decode_no (n := 4) (H7.out.2.1.below b) (by simp only [List.length_cons]; exact hr2) (by decide) (fun r' hr' => by rw [exact_map hl']; exact exact_attrs hra hr' (by simp)) (small_set hra hl' g2 c2 (small_more hra HZ.out.2)) (HG7.out.below b))
      have HN9 := hide (fun (V : World) (b : Below W7.heap.size W7 V) => decode_no (n := 4) (H7.out.2.2.below b) (by simp only [List.length_cons]; exact hr2) (by decide) (fun r' hr' => by rw [exact_map hl']; exact exact_attrs hra hr' (by rw [List.length_take, H4.out.2.2.2.2.1]; have := H4.out.2.2.2.2.2.1; omega)) (small_set hra hl' (some ⟨ga, 0, none⟩) gc (small_take hra (m - 1))) (HG7.out.below b))
      have HN10 := hide (fun (V : World) (b : Below W7.heap.size W7 V) => decode_tail (n := 4) (H3.out.2.1.below (H7.out.1.trans (b.mono H7.out.1.size))) hn (by decide) (fun r' hr' => by rw [H3.out.2.2]; exact exact_tail hra) (fun y hy a hya => enc_small hra y.1 (by rw [← H3.out.2.2]; exact List.mem_map.2 ⟨y, hy, rfl⟩) a hya) (HG7.out.below b))
      have HCC := hide (own_cap HE3.out)
      clear hl' hr2
      have HD8 := hide (HN8.out W7 (Below.refl _ W7))
      go_wp2_with fail
      refine HD8.out.mono ?_
      rintro e w8 ⟨rfl, b8⟩
      obtain ⟨W8, hW8⟩ : ∃ W, w8.alloc (.cells (rqA zeroRq) 26) = W := ⟨_, rfl⟩
      have b78 : Below W7.heap.size W7 W8 := by rw [← hW8]; exact b8.alloc b8.size _
      have HST8 := hide (store_rq zeroRq w8)
      have HW8 := hide hW8
      have HB8 := hide b78
      have HD9 := hide (HN9.out W8 b78)
      clear b8 b78 hW8 HD8
      go_wp2_with (first
        | (refine l_alloc 26 infoRq rfl rfl ?_)
        | (refine l_store 26 HST8.out rfl rfl rfl rfl ?_; rw [HW8.out]))
      refine HD9.out.mono ?_
      rintro e w9 ⟨rfl, b9⟩
      obtain ⟨W9, hW9⟩ : ∃ W, w9.alloc (.cells (rqA zeroRq) 26) = W := ⟨_, rfl⟩
      have b89 : Below W8.heap.size W8 W9 := by rw [← hW9]; exact b9.alloc b9.size _
      have b79 : Below W7.heap.size W7 W9 := HB8.out.trans (b89.mono HB8.out.size)
      have HST9 := hide (store_rq zeroRq w9)
      have HW9 := hide hW9
      have HB9 := hide b79
      have h10 := HN10.out W9 b79
      rw [show 4 - 1 = 3 from rfl] at h10
      have HD10 := hide h10
      clear b9 b89 b79 hW9 h10 HD9 HST8 HW8
      go_wp2_with (first
        | (refine l_alloc 26 infoRq rfl rfl ?_)
        | (refine l_store 26 HST9.out rfl rfl rfl rfl ?_; rw [HW9.out])
        | (refine l_val rfl _ (ex_hiT rfl rfl rfl (by decide) (by have := HCC.out; omega)) ?_))
      refine HD10.out.mono ?_
      rintro e w10 ⟨rfl, b10⟩
      obtain ⟨W10, hW10⟩ : ∃ W, w10.alloc (.cells (rqA zeroRq) 26) = W := ⟨_, rfl⟩
      have b910 : Below W9.heap.size W9 W10 := by rw [← hW10]; exact b10.alloc b10.size _
      have b710 : Below W7.heap.size W7 W10 := HB9.out.trans (b910.mono HB9.out.size)
      have HST10 := hide (store_rq zeroRq w10)
      have HW10 := hide hW10
      have HB10 := hide b710
      have HLv := hide (live13_any W10 (HG7.out.below b710))
      clear b10 b910 b710 hW10 HD10 HST9 HW9
      go_wp2_with (first
        | (refine l_alloc 26 infoRq rfl rfl ?_)
        | (refine l_store 26 HST10.out rfl rfl rfl rfl ?_; rw [HW10.out]))
      refine HLv.out.mono ?_
      rintro e w11 ⟨rfl, b11⟩
      have b3w := H3.out.1
      have b7w : Below w.heap.size w W7 := b3w.trans (H7.out.1.mono b3w.size)
      have b10w : Below w.heap.size w W10 := b7w.trans (HB10.out.mono b7w.size)
      have HF := hide (b10w.trans (b11.mono b10w.size))
      clear b11 b3w b7w b10w
      go_wp2_with fail
      go_ret
      exact ⟨rfl, HF.out⟩
    · have hlen : (encT r).length = 5 := by
        unfold encT elemT charsT
        rw [if_neg ht]
        simp
      have hn : l.length = 5 := by rw [← hlen, ← hl, List.length_map]
      obtain ⟨g, c, rfl⟩ : ∃ g c, v = .slice (some ⟨g, 0, none⟩) 5 c := by
        obtain ⟨_, ⟨_, h0⟩ | ⟨g, c, _, hv, _⟩⟩ := hE.1
        · omega
        · exact ⟨g, c, by rw [hv, hn]⟩
      have hE1 := hE.1
      rw [hn] at hE1
      have B3 : Below w.heap.size w w3 := H2.out.1.trans (b3.mono H2.out.1.size)
      have HE3 := hide hE1
      have H3 := hide (And.intro B3 (And.intro hE hl))
      have H4b := hide b3.size
      have HG3 := hide (H2.out.2.2.1.below b3)
      have b3x := hide (fun k (hk : k < W2.heap.size) => b3.block k hk)
      clear hE hE1 b3 B3 hl HEa HW2 hlen
      go_wp2_with (at_builtin; refine stopR ?_)
      unfold Hid
      refine append_row _ rfl _ _ rfl w3.heap.size W2.heap.size (.slice (some ⟨w3.heap.size, 0, none⟩) 0 0) l rfl (empty_row w3) g c 5 hn rfl (own_same HE3.out (fun k hk => ((Below.refl _ w3).alloc (Nat.le_refl _) _).block k (own_lt HE3.out k hk))) (by decide) (by simp) ?_
      intro v7 w4 h7 b4
      obtain ⟨g7, c7, rfl⟩ : ∃ g7 c7, v7 = .slice (some ⟨g7, 0, none⟩) 5 c7 := by
        obtain ⟨_, ⟨_, h0⟩ | ⟨g, c, _, hv, _⟩⟩ := h7
        · omega
        · exact ⟨g, c, hv⟩
      obtain ⟨x0, x, rest, hlx⟩ : ∃ x0 x rest, l = x0 :: x :: rest := by
        match l, hn with
        | x0 :: x :: rest, _ => exact ⟨x0, x, rest, rfl⟩
      have b34 : Below w3.heap.size w3 w4 := ((Below.refl _ w3).alloc (Nat.le_refl _) _).trans b4
      have hx : x.1 = ⟨1, verbB r.verb, attrsR r, ⟨#[]⟩⟩ := by
        have h1 : (l.map (·.1))[1]? = some x.1 := by rw [hlx]; rfl
        rw [H3.out.2.2, enc_one] at h1
        exact (Option.some.inj h1).symm
      have hoa := (H3.out.2.1.2 x (by rw [hlx]; simp)).1
      rw [hx] at hoa
      dsimp only at hoa
      obtain ⟨m, hm⟩ : ∃ m, (attrsR r).length = m := ⟨_, rfl⟩
      have hm1 : 1 ≤ m := by rw [← hm]; exact attrs_one hra
      have hmk : m ≤ 100000 := by rw [← hm]; have := (attrs_ok hra).1; omega
      rw [hm] at hoa
      obtain ⟨ga, gc, hga⟩ : ∃ ga gc, (x.2.1 = some ⟨ga, 0, none⟩ ∧ x.2.2 = gc) := by
        obtain ⟨_, ⟨_, h0⟩ | ⟨g, c, _, hv, _⟩⟩ := hoa
        · omega
        · injection hv with h1 _ h2
          exact ⟨g, c, h1, h2⟩
      rw [hga.1, hga.2] at hoa
      have hc3 : w3.cell? ⟨g, 6, none⟩ = some (.slice (some ⟨ga, 0, none⟩) m gc) := by
        obtain ⟨g', e, h⟩ := own_cells HE3.out 6 (.slice (some ⟨ga, 0, none⟩) m gc) (by rw [hlx, ← hga.1, ← hga.2, ← hm]; simp [tokC, hx])
        cases e
        exact h
      have hc6 := (b34.cell (p := ⟨g, 6, none⟩) (own_lt HE3.out g rfl)).trans hc3
      have HC3 := hide hc3
      have hpp := (b34.block _ (Nat.lt_of_lt_of_le (Array.getElem?_eq_some_iff.1 H2.out.2.1).1 H4b.out)).trans ((b3x.out _ (Array.getElem?_eq_some_iff.1 H2.out.2.1).1).trans H2.out.2.1)
      have HS := hide (And.intro hpp hc6)
      have H4 := hide (And.intro h7 (And.intro b34 (And.intro hoa (And.intro hx (And.intro hm (And.intro hm1 (And.intro hmk hlx)))))))
      clear hpp hc6 hc3 h7 b34 b4 hoa hx hm hm1 hmk hlx hga
      go_wp2_with fail
      obtain ⟨V0, hV0⟩ : ∃ V, w4.drew = V := ⟨_, rfl⟩
      have c0 : Below w4.heap.size w4 V0 := by rw [← hV0]; exact (Below.refl _ _).drew
      have hz0 : V0.heap.size = w4.heap.size := by rw [← hV0]; rfl
      have hd0 : V0.heap = w4.heap := by rw [← hV0]; rfl
      refine region_relA (S := fun V => V.heap[w.heap.size + 1]? = some (.cells #[.string nm, .string s] 49) ∧ V.cell? ⟨g, 6, none⟩ = some (.slice (some ⟨ga, 0, none⟩) m gc)) (fun a0 a W => ∃ (g2 : Option Addr) (c2 : Nat) (W0 : World) (xx : Nat → Value), (W0.ownsRow w4.heap.size 49 2 (.slice g2 (m + 1) c2) (m + 1) (attrCells (attrsR r ++ [(nm, s)])) ∧ Below w4.heap.size w4 W0 ∧ W = W0.setCell ⟨g7, 6, none⟩ (.slice g2 (m + 1) c2)) ∧ a = ⟨putA a0.tmps [35, 36, 37, 38, 39, 40, 41, 42, 43, 44, 45, 46] xx, a0.defers⟩) (by kernel_rfl) ?any5 ?fin5
      case any5 =>
        rw [hV0]
        have s0 : V0.heap[w.heap.size + 1]? = some (.cells #[.string nm, .string s] 49) ∧ V0.cell? ⟨g, 6, none⟩ = some (.slice (some ⟨ga, 0, none⟩) m gc) := by rw [hd0]; exact ⟨HS.out.1, by simp only [World.cell?, hd0]; exact HS.out.2⟩
        refine anyH_take (i := 0) (v := .slice (some ⟨g7, 0, none⟩) 5 c7) rfl (some 35) rfl (by kernel_rfl) (by kernel_rfl) (by kernel_rfl) (fun _ _ _ h => by cases h.1) (by kernel_rfl) (fun w0 hw0 => by first | rfl | kernel_rfl) s0 ?_
        simp only [Act.put, List.setIfInBounds_toArray, List.set_cons_zero, List.set_cons_succ]
        refine anyH_take (i := 2) (v := .slice (some ⟨g, 0, none⟩) 5 c) rfl (some 37) rfl (by kernel_rfl) (by kernel_rfl) (by kernel_rfl) (fun _ _ _ h => by cases h.1) (by kernel_rfl) (fun w0 hw0 => by first | rfl | kernel_rfl) s0 ?_
        simp only [Act.put, List.setIfInBounds_toArray, List.set_cons_zero, List.set_cons_succ]
        refine anyH_take (i := 3) (v := .pointer (some ⟨g, 4, none⟩)) rfl (some 38) rfl (by kernel_rfl) (by kernel_rfl) (by kernel_rfl) (fun _ _ _ h => by cases h.1) (by kernel_rfl) (fun w0 hw0 => by first | rfl | kernel_rfl) s0 ?_
        simp only [Act.put, List.setIfInBounds_toArray, List.set_cons_zero, List.set_cons_succ]
        refine anyH_take (i := 4) (v := .pointer (some ⟨g, 6, none⟩)) rfl (some 39) rfl (by kernel_rfl) (by kernel_rfl) (by kernel_rfl) (fun _ _ _ h => by cases h.1) (by kernel_rfl) (fun w0 hw0 => by first | rfl | kernel_rfl) s0 ?_
        simp only [Act.put, List.setIfInBounds_toArray, List.set_cons_zero, List.set_cons_succ]
        refine anyH_take (i := 5) (v := .slice (some ⟨ga, 0, none⟩) m gc) rfl (some 40) rfl (by kernel_rfl) (by kernel_rfl) (by kernel_rfl) (fun _ _ _ h => by cases h.1) (by kernel_rfl) (fun w0 hw0 => ex_load rfl rfl (ld44 hw0.2)) s0 ?_
        simp only [Act.put, List.setIfInBounds_toArray, List.set_cons_zero, List.set_cons_succ]
        refine anyH_take (i := 7) (v := .agg #[.string nm, .string s]) rfl (some 42) rfl (by kernel_rfl) (by kernel_rfl) (by kernel_rfl) (fun _ _ _ h => by cases h.1) (by kernel_rfl) (fun w0 hw0 => ex_load rfl rfl (ld49 hw0.1)) s0 ?_
        simp only [Act.put, List.setIfInBounds_toArray, List.set_cons_zero, List.set_cons_succ]
        have hB0 : w4.heap.size ≤ V0.heap.size := by rw [hz0]; exact Nat.le_refl _
        have keepS : ∀ V, Below w4.heap.size V0 V → V.heap[w.heap.size + 1]? = some (.cells #[.string nm, .string s] 49) ∧ V.cell? ⟨g, 6, none⟩ = some (.slice (some ⟨ga, 0, none⟩) m gc) := fun V hV => ⟨(hV.block _ (Array.getElem?_eq_some_iff.1 HS.out.1).1).trans s0.1, (hV.cell (p := ⟨g, _, none⟩) (Nat.lt_of_lt_of_le (own_lt HE3.out g rfl) H4.out.2.1.size)).trans s0.2⟩
        have hmk' := H4.out.2.2.2.2.2.2.1
        have b40 : Below w4.heap.size w4 V0 := c0
        obtain ⟨_, ⟨_, hq0⟩ | ⟨_, _, cur, hv7, hg7, hf7, hn7, _, hsz7, _⟩⟩ := H4.out.1
        · omega
        cases hv7
        have cell7 : ∀ V, Below w4.heap.size V0 V → V.cell? ⟨g7, 6, none⟩ = some (cur.getD 6 undef) ∧ V.frozen? ⟨g7, 6, none⟩ = false := fun V hV => by
          have hlt := (Array.getElem?_eq_some_iff.1 hf7).1
          have h1 : V.heap[g7]? = some (.cells cur 46) := (hV.block g7 hlt).trans (by rw [hd0]; exact hf7)
          refine ⟨?_, by simp [World.frozen?, h1]⟩
          simp only [World.cell?, h1]
          have : 6 < cur.size := by omega
          simp [this]
        have setS : ∀ V, Below w4.heap.size V0 V → ∀ u, (V.setCell ⟨g7, 6, none⟩ u).heap[w.heap.size + 1]? = some (.cells #[.string nm, .string s] 49) ∧ (V.setCell ⟨g7, 6, none⟩ u).cell? ⟨g, 6, none⟩ = some (.slice (some ⟨ga, 0, none⟩) m gc) := fun V hV u => by
          have hgl := own_lt HE3.out g rfl
          have hwl := (Array.getElem?_eq_some_iff.1 H2.out.2.1).1
          have h3 := H4b.out
          have e1 : (V.setCell ⟨g7, 6, none⟩ u).heap[w.heap.size + 1]? = V.heap[w.heap.size + 1]? := Below.heap_setCell _ _ _ _ (fun e => by have e : w.heap.size + 1 = g7 := e; omega)
          have e2 : (V.setCell ⟨g7, 6, none⟩ u).heap[g]? = V.heap[g]? := Below.heap_setCell _ _ _ _ (fun e => by have e : g = g7 := e; omega)
          refine ⟨e1.trans (keepS V hV).1, ?_⟩
          have h4 := (keepS V hV).2
          simp only [World.cell?, e2] at h4 ⊢
          exact h4
        refine anyH_two (i := 1) (j := 8) (by kernel_rfl) ?_ ?_
        · have bA : Below w4.heap.size V0 (V0.alloc (.cells #[] 49)) := (Below.refl _ V0).alloc hB0 _
          refine op_val rfl (some 36) rfl (by kernel_rfl) (ex_sliceK (us := #[]) rfl (by simp) (bld0 V0)) ⟨keepS _ bA, ?_⟩
          simp only [Act.put, List.setIfInBounds_toArray, List.set_cons_zero, List.set_cons_succ]
          have eA : (V0.alloc (.cells #[] 49)).ownsRow w4.heap.size 49 2 (.slice (some ⟨V0.heap.size, 0, none⟩) 0 0) 0 [] := by rw [← hz0]; exact empty_attrs V0
          have hoaV : ∀ V, Below w4.heap.size V0 V → V.ownsRow W2.heap.size 49 2 (.slice (some ⟨ga, 0, none⟩) m gc) m (attrCells (attrsR r)) := fun V hV => own_same H4.out.2.2.1 (fun k hk => by have hl := own_lt H4.out.2.2.1 k hk; have h1 := H4.out.2.1.block k hl; rw [hV.block k (Nat.lt_of_lt_of_le hl H4.out.2.1.size), hd0, h1])
          refine anyH_two (i := 6) (j := 8) (by kernel_rfl) ?_ ?_
          · obtain ⟨g1, c1, U1, hap1, ho1, hb1, _⟩ := pushAll (T := 44) (al := attrsR r) eA (by simp; omega) H4.out.2.2.2.2.1 H4.out.2.2.2.2.2.1 hmk' (hoaV _ bA)
            have bU1 : Below w4.heap.size V0 U1 := bA.trans hb1
            have hsU1 : w4.heap.size ≤ U1.heap.size := by have := bU1.size; omega
            refine op_val rfl (some 41) rfl (by kernel_rfl) (ex_appN rfl rfl rfl hap1) ⟨keepS _ bU1, ?_⟩
            simp only [Act.put, List.setIfInBounds_toArray, List.set_cons_zero, List.set_cons_succ]
            have bU2 : Below w4.heap.size V0 (U1.alloc (.cells #[.string nm, .string s] 49)) := bU1.alloc hsU1 _
            refine anyH_val (i := 8) (by kernel_rfl) rfl (some 43) rfl (by kernel_rfl) (ex_sliceK (us := #[(0, .agg #[.string nm, .string s])]) rfl (by simp [Act.eval]) (bld1 nm s U1)) (keepS _ bU2) ?_
            simp only [Act.put, List.setIfInBounds_toArray, List.set_cons_zero, List.set_cons_succ]
            obtain ⟨g9, c9, U9, hap9, ho9, hb9⟩ := pushB (T := 44) (q := U1.heap.size) (al := attrsR r) nm s (own_same ho1 (fun k hk => ((Below.refl _ U1).alloc (Nat.le_refl _) _).block k (own_lt ho1 k hk))) (by have := bU2.size; omega) hmk' (World.alloc_heap_new _ _)
            have b9 : Below w4.heap.size V0 U9 := bU2.trans hb9
            refine anyH_val (i := 9) (by kernel_rfl) rfl (some 44) rfl (by kernel_rfl) (ex_appN rfl rfl rfl hap9) (keepS _ b9) ?_
            simp only [Act.put, List.setIfInBounds_toArray, List.set_cons_zero, List.set_cons_succ]
            refine anyH_val (i := 10) (by kernel_rfl) rfl (some 45) rfl (by kernel_rfl) (v := .pointer (some ⟨g7, 4, none⟩)) (w' := U9) (by first | rfl | kernel_rfl) (keepS _ b9) ?_
            simp only [Act.put, List.setIfInBounds_toArray, List.set_cons_zero, List.set_cons_succ]
            refine anyH_val (i := 11) (by kernel_rfl) rfl (some 46) rfl (by kernel_rfl) (v := .pointer (some ⟨g7, 6, none⟩)) (w' := U9) (by first | rfl | kernel_rfl) (keepS _ b9) ?_
            simp only [Act.put, List.setIfInBounds_toArray, List.set_cons_zero, List.set_cons_succ]
            refine anyH_skip (i := 12) (by kernel_rfl) rfl none rfl (by kernel_rfl) (ex_store rfl rfl rfl (run_store44 (cell7 _ b9).1 (cell7 _ b9).2)) (setS _ b9 _) ?_
            simp only [Act.put]
            exact wpAnyH_done (by kernel_rfl) ⟨rfl, g9, c9, U9, fill ⟨ho9, b40.trans b9, rfl⟩ (by kernel_rfl)⟩ _
          
          · have bU1 : Below w4.heap.size V0 ((V0.alloc (.cells #[] 49)).alloc (.cells #[.string nm, .string s] 49)) := bA.alloc (by simp; omega) _
            refine op_val rfl (some 43) rfl (by kernel_rfl) (ex_sliceK (us := #[(0, .agg #[.string nm, .string s])]) rfl (by simp [Act.eval]) (bld1 nm s _)) ⟨keepS _ bU1, ?_⟩
            simp only [Act.put, List.setIfInBounds_toArray, List.set_cons_zero, List.set_cons_succ]
            obtain ⟨g1, c1, U2, hap1, ho1, hb1, hk1⟩ := pushAll (T := 44) (al := attrsR r) (own_same eA (fun k hk => ((Below.refl _ (V0.alloc (.cells #[] 49))).alloc (Nat.le_refl _) _).block k (own_lt eA k hk))) (by have := bU1.size; omega) H4.out.2.2.2.2.1 H4.out.2.2.2.2.2.1 hmk' (hoaV _ bU1)
            have bU2 : Below w4.heap.size V0 U2 := bU1.trans hb1
            have hq2 : U2.heap[(V0.alloc (.cells #[] 49)).heap.size]? = some (.cells #[.string nm, .string s] 49) := (hk1 _ (by simp) (fun e => by injection e with e; simp at e)).trans (World.alloc_heap_new _ _)
            refine anyH_val (i := 6) (by kernel_rfl) rfl (some 41) rfl (by kernel_rfl) (ex_appN rfl rfl rfl hap1) (keepS _ bU2) ?_
            simp only [Act.put, List.setIfInBounds_toArray, List.set_cons_zero, List.set_cons_succ]
            obtain ⟨g9, c9, U9, hap9, ho9, hb9⟩ := pushB (T := 44) (q := (V0.alloc (.cells #[] 49)).heap.size) (al := attrsR r) nm s ho1 (by have := bU2.size; omega) hmk' hq2
            have b9 : Below w4.heap.size V0 U9 := bU2.trans hb9
            refine anyH_val (i := 9) (by kernel_rfl) rfl (some 44) rfl (by kernel_rfl) (ex_appN rfl rfl rfl hap9) (keepS _ b9) ?_
            simp only [Act.put, List.setIfInBounds_toArray, List.set_cons_zero, List.set_cons_succ]
            refine anyH_val (i := 10) (by kernel_rfl) rfl (some 45) rfl (by kernel_rfl) (v := .pointer (some ⟨g7, 4, none⟩)) (w' := U9) (by first | rfl | kernel_rfl) (keepS _ b9) ?_
            simp only [Act.put, List.setIfInBounds_toArray, List.set_cons_zero, List.set_cons_succ]
            refine anyH_val (i := 11) (by kernel_rfl) rfl (some 46) rfl (by kernel_rfl) (v := .pointer (some ⟨g7, 6, none⟩)) (w' := U9) (by first | rfl | kernel_rfl) (keepS _ b9) ?_
            simp only [Act.put, List.setIfInBounds_toArray, List.set_cons_zero, List.set_cons_succ]
            refine anyH_skip (i := 12) (by kernel_rfl) rfl none rfl (by kernel_rfl) (ex_store rfl rfl rfl (run_store44 (cell7 _ b9).1 (cell7 _ b9).2)) (setS _ b9 _) ?_
            simp only [Act.put]
            exact wpAnyH_done (by kernel_rfl) ⟨rfl, g9, c9, U9, fill ⟨ho9, b40.trans b9, rfl⟩ (by kernel_rfl)⟩ _
        · have bA : Below w4.heap.size V0 (V0.alloc (.cells #[.string nm, .string s] 49)) := (Below.refl _ V0).alloc hB0 _
          refine op_val rfl (some 43) rfl (by kernel_rfl) (ex_sliceK (us := #[(0, .agg #[.string nm, .string s])]) rfl (by simp [Act.eval]) (bld1 nm s V0)) ⟨keepS _ bA, ?_⟩
          simp only [Act.put, List.setIfInBounds_toArray, List.set_cons_zero, List.set_cons_succ]
          have bU1 : Below w4.heap.size V0 ((V0.alloc (.cells #[.string nm, .string s] 49)).alloc (.cells #[] 49)) := bA.alloc (by simp; omega) _
          have eB := own_less (empty_attrs (V0.alloc (.cells #[.string nm, .string s] 49))) (show w4.heap.size ≤ _ by simp; omega)
          refine anyH_val (i := 1) (by kernel_rfl) rfl (some 36) rfl (by kernel_rfl) (ex_sliceK (us := #[]) rfl (by simp) (bld0 _)) (keepS _ bU1) ?_
          simp only [Act.put, List.setIfInBounds_toArray, List.set_cons_zero, List.set_cons_succ]
          have hoaV : ∀ V, Below w4.heap.size V0 V → V.ownsRow W2.heap.size 49 2 (.slice (some ⟨ga, 0, none⟩) m gc) m (attrCells (attrsR r)) := fun V hV => own_same H4.out.2.2.1 (fun k hk => by have hl := own_lt H4.out.2.2.1 k hk; have h1 := H4.out.2.1.block k hl; rw [hV.block k (Nat.lt_of_lt_of_le hl H4.out.2.1.size), hd0, h1])
          obtain ⟨g1, c1, U2, hap1, ho1, hb1, hk1⟩ := pushAll (T := 44) (al := attrsR r) eB (by have := bU1.size; omega) H4.out.2.2.2.2.1 H4.out.2.2.2.2.2.1 hmk' (hoaV _ bU1)
          have bU2 : Below w4.heap.size V0 U2 := bU1.trans hb1
          have hq2 : U2.heap[V0.heap.size]? = some (.cells #[.string nm, .string s] 49) := (hk1 _ (by simp; omega) (fun e => by injection e with e; simp at e)).trans (keep_alloc (World.alloc_heap_new _ _))
          refine anyH_val (i := 6) (by kernel_rfl) rfl (some 41) rfl (by kernel_rfl) (ex_appN rfl rfl rfl hap1) (keepS _ bU2) ?_
          simp only [Act.put, List.setIfInBounds_toArray, List.set_cons_zero, List.set_cons_succ]
          obtain ⟨g9, c9, U9, hap9, ho9, hb9⟩ := pushB (T := 44) (q := V0.heap.size) (al := attrsR r) nm s ho1 (by have := bU2.size; omega) hmk' hq2
          have b9 : Below w4.heap.size V0 U9 := bU2.trans hb9
          refine anyH_val (i := 9) (by kernel_rfl) rfl (some 44) rfl (by kernel_rfl) (ex_appN rfl rfl rfl hap9) (keepS _ b9) ?_
          simp only [Act.put, List.setIfInBounds_toArray, List.set_cons_zero, List.set_cons_succ]
          refine anyH_val (i := 10) (by kernel_rfl) rfl (some 45) rfl (by kernel_rfl) (v := .pointer (some ⟨g7, 4, none⟩)) (w' := U9) (by first | rfl | kernel_rfl) (keepS _ b9) ?_
          simp only [Act.put, List.setIfInBounds_toArray, List.set_cons_zero, List.set_cons_succ]
          refine anyH_val (i := 11) (by kernel_rfl) rfl (some 46) rfl (by kernel_rfl) (v := .pointer (some ⟨g7, 6, none⟩)) (w' := U9) (by first | rfl | kernel_rfl) (keepS _ b9) ?_
          simp only [Act.put, List.setIfInBounds_toArray, List.set_cons_zero, List.set_cons_succ]
          refine anyH_skip (i := 12) (by kernel_rfl) rfl none rfl (by kernel_rfl) (ex_store rfl rfl rfl (run_store44 (cell7 _ b9).1 (cell7 _ b9).2)) (setS _ b9 _) ?_
          simp only [Act.put]
          exact wpAnyH_done (by kernel_rfl) ⟨rfl, g9, c9, U9, fill ⟨ho9, b40.trans b9, rfl⟩ (by kernel_rfl)⟩ _
      rintro a W ⟨g2, c2, W0, xx, ⟨h1, h2, rfl⟩, rfl⟩
      obtain ⟨W5, hW5⟩ : ∃ W5, W0.setCell ⟨g7, 6, none⟩ (.slice g2 (m + 1) c2) = W5 := ⟨_, rfl⟩
      have gb7 : w3.heap.size ≤ g7 := own_base H4.out.1 g7 rfl
      have b30 : Below w3.heap.size w3 W0 := H4.out.2.1.trans (h2.mono H4.out.2.1.size)
      have b35 : Below w3.heap.size w3 W5 := by rw [← hW5]; exact b30.setCell (p := ⟨g7, 6, none⟩) gb7 _
      have M5 : ElRow W2.heap.size W5 (.slice (some ⟨g7, 0, none⟩) 5 c7) (x0 :: ({ x.1 with attrs := attrsR r ++ [(nm, s)] }, g2, c2) :: rest) := by
        have hlx := H4.out.2.2.2.2.2.2.2
        have hm := H4.out.2.2.2.2.1
        have hal : (attrsR r ++ [(nm, s)]).length = m + 1 := by simp [hm]
        have e7 : ElRow W2.heap.size W0 (.slice (some ⟨g7, 0, none⟩) 5 c7) (x0 :: x :: rest) := by
          rw [← hlx]
          exact row_new H3.out.2.1 b30 (own_same H4.out.1 (fun k hk => h2.block k (own_lt H4.out.1 k hk))) hn H4b.out
        have h := elRow_set (gc := c2) (al := attrsR r ++ [(nm, s)]) e7 (by rw [hal]; exact own_less h1 (Nat.le_trans H4b.out H4.out.2.1.size)) (sized_more (e7.2 x (by simp)).2 (by rw [H4.out.2.2.2.1]) (by rw [hm]; exact H4.out.2.2.2.2.2.2.1) HZ.out.1 (by have := HZ.out.2; omega))
        rw [hal, hW5] at h
        exact h
      have H5 := hide (And.intro b35 M5)
      have HE5 := hide (own_same HE3.out (fun k hk => b35.block k (own_lt HE3.out k hk)))
      clear b35 M5 b30 gb7 h1 h2
      rw [hW5]
      clear hW5
      simp only [putA, List.foldl_cons, List.foldl_nil, List.setIfInBounds_toArray, List.set_cons_zero, List.set_cons_succ]
      go_wp2_with (at_builtin; refine stopR ?_)
      unfold Hid
      refine append_row _ rfl _ _ rfl W5.heap.size W2.heap.size (.slice (some ⟨W5.heap.size, 0, none⟩) 0 0) l rfl (empty_row W5) g c 5 hn rfl (own_same HE5.out (fun k hk => ((Below.refl _ W5).alloc (Nat.le_refl _) _).block k (own_lt HE5.out k hk))) (by decide) (by simp) ?_
      intro v8 w6 h8 b6
      obtain ⟨g8, c8, rfl⟩ : ∃ g8 c8, v8 = .slice (some ⟨g8, 0, none⟩) 5 c8 := by
        obtain ⟨_, ⟨_, h0⟩ | ⟨g, c, _, hv, _⟩⟩ := h8
        · omega
        · exact ⟨g, c, hv⟩
      have b56 : Below W5.heap.size W5 w6 := ((Below.refl _ W5).alloc (Nat.le_refl _) _).trans b6
      have b36 : Below w3.heap.size w3 w6 := H5.out.1.trans (b56.mono H5.out.1.size)
      have hs6 : w6.cell? ⟨g, 6, none⟩ = some (.slice (some ⟨ga, 0, none⟩) m gc) := (b36.cell (p := ⟨g, _, none⟩) (own_lt HE3.out g rfl)).trans HC3.out
      have H6 := hide (And.intro h8 (And.intro b56 (And.intro b36 hs6)))
      clear h8 b56 b36 hs6 b6
      go_wp2_with fail
      obtain ⟨V0, hV0⟩ : ∃ V, w6.drew = V := ⟨_, rfl⟩
      have c0 : Below w6.heap.size w6 V0 := by rw [← hV0]; exact (Below.refl _ _).drew
      have hd0 : V0.heap = w6.heap := by rw [← hV0]; rfl
      have s0 : V0.cell? ⟨g, 6, none⟩ = some (.slice (some ⟨ga, 0, none⟩) m gc) := by simp only [World.cell?, hd0]; exact H6.out.2.2.2
      refine region_relA (S := fun V => V.cell? ⟨g, 6, none⟩ = some (.slice (some ⟨ga, 0, none⟩) m gc)) (fun a0 a W => ∃ (xx : Nat → Value), W = V0.setCell ⟨g8, 6, none⟩ (.slice (some ⟨ga, 0, none⟩) (m - 1) gc) ∧ a = ⟨putA a0.tmps [50, 51, 52, 53, 54, 55, 56, 57, 58, 59, 60, 61, 62, 63] xx, a0.defers⟩) (by kernel_rfl) ?anyb5 ?finb5
      case anyb5 =>
        rw [hV0]
        have hm1 := H4.out.2.2.2.2.2.1
        have hmk := H4.out.2.2.2.2.2.2.1
        have hmc := own_cap H4.out.2.2.1
        refine anyH_take (i := 0) (v := .slice (some ⟨g8, 0, none⟩) 5 c8) rfl (some 50) rfl (by kernel_rfl) (by kernel_rfl) (by kernel_rfl) (fun _ _ _ h => by cases h.1) (by kernel_rfl) (fun w0 hw0 => by first | rfl | kernel_rfl) s0 ?_
        simp only [Act.put, List.setIfInBounds_toArray, List.set_cons_zero, List.set_cons_succ]
        refine anyH_take (i := 1) (v := .slice (some ⟨g, 0, none⟩) 5 c) rfl (some 51) rfl (by kernel_rfl) (by kernel_rfl) (by kernel_rfl) (fun _ _ _ h => by cases h.1) (by kernel_rfl) (fun w0 hw0 => by first | rfl | kernel_rfl) s0 ?_
        simp only [Act.put, List.setIfInBounds_toArray, List.set_cons_zero, List.set_cons_succ]
        refine anyH_take (i := 2) (v := .pointer (some ⟨g, 4, none⟩)) rfl (some 52) rfl (by kernel_rfl) (by kernel_rfl) (by kernel_rfl) (fun _ _ _ h => by cases h.1) (by kernel_rfl) (fun w0 hw0 => by first | rfl | kernel_rfl) s0 ?_
        simp only [Act.put, List.setIfInBounds_toArray, List.set_cons_zero, List.set_cons_succ]
        refine anyH_take (i := 3) (v := .pointer (some ⟨g, 6, none⟩)) rfl (some 53) rfl (by kernel_rfl) (by kernel_rfl) (by kernel_rfl) (fun _ _ _ h => by cases h.1) (by kernel_rfl) (fun w0 hw0 => by first | rfl | kernel_rfl) s0 ?_
        simp only [Act.put, List.setIfInBounds_toArray, List.set_cons_zero, List.set_cons_succ]
        refine anyH_take (i := 4) (v := .slice (some ⟨ga, 0, none⟩) m gc) rfl (some 54) rfl (by kernel_rfl) (by kernel_rfl) (by kernel_rfl) (fun _ _ _ h => by cases h.1) (by kernel_rfl) (fun w0 hw0 => ex_load rfl rfl (ld44 hw0)) s0 ?_
        simp only [Act.put, List.setIfInBounds_toArray, List.set_cons_zero, List.set_cons_succ]
        refine anyH_take (i := 5) (v := .slice (some ⟨g, 0, none⟩) 5 c) rfl (some 55) rfl (by kernel_rfl) (by kernel_rfl) (by kernel_rfl) (fun _ _ _ h => by cases h.1) (by kernel_rfl) (fun w0 hw0 => by first | rfl | kernel_rfl) s0 ?_
        simp only [Act.put, List.setIfInBounds_toArray, List.set_cons_zero, List.set_cons_succ]
        refine anyH_take (i := 6) (v := .pointer (some ⟨g, 4, none⟩)) rfl (some 56) rfl (by kernel_rfl) (by kernel_rfl) (by kernel_rfl) (fun _ _ _ h => by cases h.1) (by kernel_rfl) (fun w0 hw0 => by first | rfl | kernel_rfl) s0 ?_
        simp only [Act.put, List.setIfInBounds_toArray, List.set_cons_zero, List.set_cons_succ]
        refine anyH_take (i := 7) (v := .pointer (some ⟨g, 6, none⟩)) rfl (some 57) rfl (by kernel_rfl) (by kernel_rfl) (by kernel_rfl) (fun _ _ _ h => by cases h.1) (by kernel_rfl) (fun w0 hw0 => by first | rfl | kernel_rfl) s0 ?_
        simp only [Act.put, List.setIfInBounds_toArray, List.set_cons_zero, List.set_cons_succ]
        refine anyH_take (i := 8) (v := .slice (some ⟨ga, 0, none⟩) m gc) rfl (some 58) rfl (by kernel_rfl) (by kernel_rfl) (by kernel_rfl) (fun _ _ _ h => by cases h.1) (by kernel_rfl) (fun w0 hw0 => ex_load rfl rfl (ld44 hw0)) s0 ?_
        simp only [Act.put, List.setIfInBounds_toArray, List.set_cons_zero, List.set_cons_succ]
        refine anyH_take (i := 9) (v := .int .i64 m) rfl (some 59) rfl (by kernel_rfl) (by kernel_rfl) (by kernel_rfl) (fun _ _ _ h => by cases h.1) (by kernel_rfl) (fun w0 hw0 => ex_lenA rfl rfl) s0 ?_
        simp only [Act.put, List.setIfInBounds_toArray, List.set_cons_zero, List.set_cons_succ]
        refine anyH_take (i := 10) (v := .int .i64 ((m - 1 : Nat))) rfl (some 60) rfl (by kernel_rfl) (by kernel_rfl) (by kernel_rfl) (fun _ _ _ h => by cases h.1) (by kernel_rfl) (fun w0 hw0 => ex_subA rfl rfl hm1 (by omega)) s0 ?_
        simp only [Act.put, List.setIfInBounds_toArray, List.set_cons_zero, List.set_cons_succ]
        refine anyH_take (i := 11) (v := .slice (some ⟨ga, 0, none⟩) (m - 1) gc) rfl (some 61) rfl (by kernel_rfl) (by kernel_rfl) (by kernel_rfl) (fun _ _ _ h => by cases h.1) (by kernel_rfl) (fun w0 hw0 => ex_loA rfl rfl rfl (by omega)) s0 ?_
        simp only [Act.put, List.setIfInBounds_toArray, List.set_cons_zero, List.set_cons_succ]
        refine anyH_take (i := 12) (v := .pointer (some ⟨g8, 4, none⟩)) rfl (some 62) rfl (by kernel_rfl) (by kernel_rfl) (by kernel_rfl) (fun _ _ _ h => by cases h.1) (by kernel_rfl) (fun w0 hw0 => by first | rfl | kernel_rfl) s0 ?_
        simp only [Act.put, List.setIfInBounds_toArray, List.set_cons_zero, List.set_cons_succ]
        refine anyH_take (i := 13) (v := .pointer (some ⟨g8, 6, none⟩)) rfl (some 63) rfl (by kernel_rfl) (by kernel_rfl) (by kernel_rfl) (fun _ _ _ h => by cases h.1) (by kernel_rfl) (fun w0 hw0 => by first | rfl | kernel_rfl) s0 ?_
        simp only [Act.put, List.setIfInBounds_toArray, List.set_cons_zero, List.set_cons_succ]
        obtain ⟨_, ⟨_, hq0⟩ | ⟨_, _, cur, hv8, hg8, hf8, hn8, _, hsz8, _⟩⟩ := H6.out.1
        · omega
        cases hv8
        have hk8 : V0.heap[g8]? = some (.cells cur 46) := by rw [hd0]; exact hf8
        have hc8 : V0.cell? ⟨g8, 6, none⟩ = some (cur.getD 6 undef) := by
          simp only [World.cell?, hk8]
          have : 6 < cur.size := by omega
          simp [this]
        have hz8 : V0.frozen? ⟨g8, 6, none⟩ = false := by simp [World.frozen?, hk8]
        have hS8 : (V0.setCell ⟨g8, 6, none⟩ (.slice (some ⟨ga, 0, none⟩) (m - 1) gc)).cell? ⟨g, 6, none⟩ = some (.slice (some ⟨ga, 0, none⟩) m gc) := by
          have hgl := own_lt HE3.out g rfl
          have h5 := H5.out.1.size
          have e2 : (V0.setCell ⟨g8, 6, none⟩ (.slice (some ⟨ga, 0, none⟩) (m - 1) gc)).heap[g]? = V0.heap[g]? := Below.heap_setCell _ _ _ _ (fun e => by have e : g = g8 := e; omega)
          have h4 := s0
          simp only [World.cell?, e2] at h4 ⊢
          exact h4
        refine anyH_skip (i := 14) (by kernel_rfl) rfl none rfl (by kernel_rfl) (ex_store rfl rfl rfl (run_store44 hc8 hz8)) hS8 ?_
        simp only [Act.put]
        exact wpAnyH_done (by kernel_rfl) ⟨rfl, fill rfl (by kernel_rfl)⟩ _
      rintro a W ⟨xy, rfl, rfl⟩
      obtain ⟨W7, hW7⟩ : ∃ W7, V0.setCell ⟨g8, 6, none⟩ (.slice (some ⟨ga, 0, none⟩) (m - 1) gc) = W7 := ⟨_, rfl⟩
      have gb8 : W5.heap.size ≤ g8 := own_base H6.out.1 g8 rfl
      have b50 : Below W5.heap.size W5 V0 := H6.out.2.1.trans (c0.mono H6.out.2.1.size)
      have b57 : Below W5.heap.size W5 W7 := by rw [← hW7]; exact b50.setCell (p := ⟨g8, 6, none⟩) gb8 _
      have b37 : Below w3.heap.size w3 W7 := H5.out.1.trans (b57.mono H5.out.1.size)
      have b30 : Below w3.heap.size w3 V0 := H5.out.1.trans (b50.mono H5.out.1.size)
      have L7 : ElRow W2.heap.size W7 (.slice (some ⟨g8, 0, none⟩) 5 c8) (x0 :: ({ x.1 with attrs := (attrsR r).take (m - 1) }, some ⟨ga, 0, none⟩, gc) :: rest) := by
        have hlx := H4.out.2.2.2.2.2.2.2
        have hm := H4.out.2.2.2.2.1
        have hal : ((attrsR r).take (m - 1)).length = m - 1 := by rw [List.length_take, hm]; omega
        have e8 : ElRow W2.heap.size V0 (.slice (some ⟨g8, 0, none⟩) 5 c8) (x0 :: x :: rest) := by
          rw [← hlx]
          exact row_new H3.out.2.1 b30 (own_same H6.out.1 (fun k hk => c0.block k (own_lt H6.out.1 k hk))) hn (Nat.le_trans H4b.out H5.out.1.size)
        have hoa := own_prefix (own_same H4.out.2.2.1 (fun k hk => b30.block k (own_lt H4.out.2.2.1 k hk))) (show m - 1 ≤ m by omega)
        have h := elRow_set (gc := gc) (al := (attrsR r).take (m - 1)) e8 (by rw [hal]; exact hoa) (sized_less (e8.2 x (by simp)).2 (by rw [H4.out.2.2.2.1]) (m - 1))
        rw [hal, hW7] at h
        exact h
      have H7 := hide (And.intro b37 (And.intro (H5.out.2.below b57) L7))
      clear b37 b57 b50 b30 gb8 L7 c0 hd0 s0 hV0
      rw [hW7]
      clear hW7
      simp only [putA, List.foldl_cons, List.foldl_nil, List.setIfInBounds_toArray, List.set_cons_zero, List.set_cons_succ]
      have hl' : (x0 :: x :: rest).map (·.1) = encT r := by rw [← H4.out.2.2.2.2.2.2.2]; exact H3.out.2.2
      have hr2 : (x0 :: x :: rest).length = 5 := by rw [← H4.out.2.2.2.2.2.2.2]; exact hn
      simp only [List.length_cons] at hr2
      have HG7 := hide (HG3.out.below H7.out.1)
      have HN8 := hide (fun (V : World) (b : Below W7.heap.size W7 V) => decode_no (n := 5) (H7.out.2.1.below b) (by simp only [List.length_cons]; exact hr2) (by decide) (fun r' hr' => by rw [exact_map hl']; exact exact_attrs hra hr' (by simp)) (small_set hra hl' g2 c2 (small_more hra HZ.out.2)) (HG7.out.below b))
      have HN9 := hide (fun (V : World) (b : Below W7.heap.size W7 V) => decode_no (n := 5) (H7.out.2.2.below b) (by simp only [List.length_cons]; exact hr2) (by decide) (fun r' hr' => by rw [exact_map hl']; exact exact_attrs hra hr' (by rw [List.length_take, H4.out.2.2.2.2.1]; have := H4.out.2.2.2.2.2.1; omega)) (small_set hra hl' (some ⟨ga, 0, none⟩) gc (small_take hra (m - 1))) (HG7.out.below b))
      have HN10 := hide (fun (V : World) (b : Below W7.heap.size W7 V) => decode_tail (n := 5) (H3.out.2.1.below (H7.out.1.trans (b.mono H7.out.1.size))) hn (by decide) (fun r' hr' => by rw [H3.out.2.2]; exact exact_tail hra) (fun y hy a hya => enc_small hra y.1 (by rw [← H3.out.2.2]; exact List.mem_map.2 ⟨y, hy, rfl⟩) a hya) (HG7.out.below b))
      have HCC := hide (own_cap HE3.out)
      clear hl' hr2
      have HD8 := hide (HN8.out W7 (Below.refl _ W7))
      go_wp2_with fail
      refine HD8.out.mono ?_
      rintro e w8 ⟨rfl, b8⟩
      obtain ⟨W8, hW8⟩ : ∃ W, w8.alloc (.cells (rqA zeroRq) 26) = W := ⟨_, rfl⟩
      have b78 : Below W7.heap.size W7 W8 := by rw [← hW8]; exact b8.alloc b8.size _
      have HST8 := hide (store_rq zeroRq w8)
      have HW8 := hide hW8
      have HB8 := hide b78
      have HD9 := hide (HN9.out W8 b78)
      clear b8 b78 hW8 HD8
      go_wp2_with (first
        | (refine l_alloc 26 infoRq rfl rfl ?_)
        | (refine l_store 26 HST8.out rfl rfl rfl rfl ?_; rw [HW8.out]))
      refine HD9.out.mono ?_
      rintro e w9 ⟨rfl, b9⟩
      obtain ⟨W9, hW9⟩ : ∃ W, w9.alloc (.cells (rqA zeroRq) 26) = W := ⟨_, rfl⟩
      have b89 : Below W8.heap.size W8 W9 := by rw [← hW9]; exact b9.alloc b9.size _
      have b79 : Below W7.heap.size W7 W9 := HB8.out.trans (b89.mono HB8.out.size)
      have HST9 := hide (store_rq zeroRq w9)
      have HW9 := hide hW9
      have HB9 := hide b79
      have h10 := HN10.out W9 b79
      rw [show 5 - 1 = 4 from rfl] at h10
      have HD10 := hide h10
      clear b9 b89 b79 hW9 h10 HD9 HST8 HW8
      go_wp2_with (first
        | (refine l_alloc 26 infoRq rfl rfl ?_)
        | (refine l_store 26 HST9.out rfl rfl rfl rfl ?_; rw [HW9.out])
        | (refine l_val rfl _ (ex_hiT rfl rfl rfl (by decide) (by have := HCC.out; omega)) ?_))
      refine HD10.out.mono ?_
      rintro e w10 ⟨rfl, b10⟩
      obtain ⟨W10, hW10⟩ : ∃ W, w10.alloc (.cells (rqA zeroRq) 26) = W := ⟨_, rfl⟩
      have b910 : Below W9.heap.size W9 W10 := by rw [← hW10]; exact b10.alloc b10.size _
      have b710 : Below W7.heap.size W7 W10 := HB9.out.trans (b910.mono HB9.out.size)
      have HST10 := hide (store_rq zeroRq w10)
      have HW10 := hide hW10
      have HB10 := hide b710
      have HLv := hide (live13_any W10 (HG7.out.below b710))
      clear b10 b910 b710 hW10 HD10 HST9 HW9
      go_wp2_with (first
        | (refine l_alloc 26 infoRq rfl rfl ?_)
        | (refine l_store 26 HST10.out rfl rfl rfl rfl ?_; rw [HW10.out]))
      refine HLv.out.mono ?_
      rintro e w11 ⟨rfl, b11⟩
      have b3w := H3.out.1
      have b7w : Below w.heap.size w W7 := b3w.trans (H7.out.1.mono b3w.size)
      have b10w : Below w.heap.size w W10 := b7w.trans (HB10.out.mono b7w.size)
      have HF := hide (b10w.trans (b11.mono b10w.size))
      clear b11 b3w b7w b10w
      go_wp2_with fail
      go_ret
      exact ⟨rfl, HF.out⟩
  · have HB := hide (And.intro (H2.out.1.trans (b3.mono H2.out.1.size)) (H2.out.2.2.1.below b3))
    clear b3 hra HEa HLa HW2
    go_wp2_with fail
    refine (live13_any w3 HB.out.2).mono ?_
    rintro e w4 ⟨rfl, b4⟩
    have HC := hide (HB.out.1.trans (b4.mono HB.out.1.size))
    clear b4
    go_wp2_with fail
    go_ret
    exact ⟨rfl, HC.out⟩
end Go.Proofs.YtimhkgpjfppkmaaDoor
