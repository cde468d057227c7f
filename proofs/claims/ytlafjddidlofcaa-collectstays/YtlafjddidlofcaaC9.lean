/- Remove, Add. -/
import Derived.Test.YtlafjddidlofcaaC9a
namespace Go.Proofs.Ytlafjddidlofcaa
open Go.RowKit Go.Shelf

theorem op_run {P : Program} {ops : Array Oper} {Q : Exit → Act → World → Prop} {i : Nat} {o : Oper} {a : Act} {w w' : World} {v : Value} {K : Act → World → Prop} (hi : ops[i]? = some o) (dst : Option Tmp) (hdst : o.dst = dst) (hw : Region.wanted o (yielded ops a.tmps) = true) (hrun : (execOp a.eval o).run P w = .ok (.value v) w') (hK : K (a.put dst v) w') : wpOp P ops Q i K a w := by
  subst hdst
  unfold wpOp
  simp only [hi, hw, if_true]
  refine .inl ?_
  unfold Oper.wp
  rw [hrun]
  exact hK
set_option maxRecDepth 100000 in
set_option maxHeartbeats 4000000 in
theorem remove_any (ao : Option Addr) (cap : Nat) (l : List Pr) (s : ByteArray) (w : World) (hm : EdMem w.heap.size w ao l) (hcap : l.length ≤ cap) (hc63 : cap ≤ maxLen) :
    Calls Try.prog 11 #[.slice ao l.length cap, .string s] w fun e w' => ∃ v n ns, e = .returned (.tuple #[v, .int .i64 n]) ∧ w'.ownsRow w.heap.size 47 2 v ns.length (edC ns) ∧ ((¬ RightE l ∧ n = 3 ∧ ns = []) ∨ (RightE l ∧ pOf l s = none ∧ n = 10 ∧ ns = []) ∨ (RightE l ∧ n = 0 ∧ ∃ k x, At l s k ∧ l[k]? = some x ∧ x.1 = s ∧ ns = l.take k ++ l.drop (k + 1))) ∧ Below w.heap.size w w' := by
  have HR := hide (right_any ao cap l w hm)
  have HM := hide hm
  obtain ⟨m, hml⟩ : ∃ m, l.length = m := ⟨_, rfl⟩
  have HL := hide hml
  have h1m := hm.1
  rw [hml] at HR hcap h1m ⊢
  clear hm hml
  have hcapi : (m : Int) ≤ cap := by omega
  have hc63i : (cap : Int) ≤ 9223372036854775807 := by unfold maxLen at hc63; omega
  go_enter Try.func11, Try.ntmps11
  go_wp2_with (go_at_call 15; refine HR.out.mono ?_; rintro e w1 ⟨h | h, b1⟩ <;> obtain ⟨hn, rfl⟩ := h)
  · have HF := hide (find_any ao cap l s w1 ((HM.out.below b1).more b1.size) hn.2.2.1)
    rw [HL.out] at HF
    refine HF.out.mono ?_
    rintro e w2 ⟨⟨k, hk, h⟩, b2⟩
    have hB : Below w.heap.size w w2 := b1.trans (b2.mono b1.size)
    rcases h with ⟨x, hx, he, rfl⟩ | ⟨hx, rfl⟩
    · have hkm : k < m := by have := (List.getElem?_eq_some_iff.1 hx).1; have := HL.out; omega
      have hkmi : (k : Int) < m := by omega
      have hw1 : IntKind.i64.wrap ((k : Int) + 1) = k + 1 := by rw [IntKind.wrap_i64]; omega
      obtain ⟨b, off, rfl, hbl, c0, c1⟩ := (HM.out.below hB).2 k x hx
      have HX := hide (And.intro hn (And.intro hk (And.intro hx (And.intro he hB))))
      clear hn hB hx he hk b1 b2 HF HR
      go_wp2_with fail
      obtain ⟨V0, hV0⟩ : ∃ V0, w2.drew = V0 := ⟨_, rfl⟩
      have B0 : Below w.heap.size w V0 := by rw [← hV0]; exact HX.out.2.2.2.2.drew
      refine region_rel (S := fun W => Below V0.heap.size V0 W) (fun a W => ∃ v x0 x1 x2 x3 x6 x7 x8 x9 x10 x11 x12 x13 x14 x15 x16 x17 x18 x19 x20 x21 x22 x23 x24 x25 x26 x27 : Value, W.ownsRow w.heap.size 47 2 v (l.take k ++ l.drop (k + 1)).length (edC (l.take k ++ l.drop (k + 1))) ∧ Below w.heap.size w W ∧ a = { tmps := #[x0, x1, x2, x3, v, .int .i64 0, x6, x7, x8, x9, x10, x11, x12, x13, x14, x15, x16, x17, x18, x19, x20, x21, x22, x23, x24, x25, x26, x27], defers := [] }) (by kernel_rfl) ?reg ?beh
      case reg =>
        rw [hV0]
        have S0 : Below V0.heap.size V0 V0 := Below.refl _ _
        refine anyH_take (i := 0) (v := .slice (some ⟨b, off, none⟩) m cap) rfl (some 19) rfl (by kernel_rfl) (by kernel_rfl) (by kernel_rfl) (fun _ _ _ h => by cases h.1) rfl (fun w0 hw0 => by first | rfl | kernel_rfl) S0 ?_
        simp only [Act.put, List.setIfInBounds_toArray, List.set_cons_zero, List.set_cons_succ]
        refine anyH_take (i := 1) (v := .int .i64 k) rfl (some 20) rfl (by kernel_rfl) (by kernel_rfl) (by kernel_rfl) (fun _ _ _ h => by cases h.1) rfl (fun w0 hw0 => by first | rfl | kernel_rfl) S0 ?_
        simp only [Act.put, List.setIfInBounds_toArray, List.set_cons_zero, List.set_cons_succ]
        refine anyH_take (i := 2) (v := .slice (offE (some ⟨b, off, none⟩) 0 cap) k cap) rfl (some 21) rfl (by kernel_rfl) (by kernel_rfl) (by kernel_rfl) (fun _ _ _ h => by cases h.1) rfl (fun w0 hw0 => ex_lo rfl rfl rfl (by omega)) S0 ?_
        simp only [Act.put, List.setIfInBounds_toArray, List.set_cons_zero, List.set_cons_succ]
        refine anyH_take (i := 3) (v := .slice (some ⟨b, off, none⟩) m cap) rfl (some 22) rfl (by kernel_rfl) (by kernel_rfl) (by kernel_rfl) (fun _ _ _ h => by cases h.1) rfl (fun w0 hw0 => by first | rfl | kernel_rfl) S0 ?_
        simp only [Act.put, List.setIfInBounds_toArray, List.set_cons_zero, List.set_cons_succ]
        refine anyH_take (i := 4) (v := .int .i64 k) rfl (some 23) rfl (by kernel_rfl) (by kernel_rfl) (by kernel_rfl) (fun _ _ _ h => by cases h.1) rfl (fun w0 hw0 => by first | rfl | kernel_rfl) S0 ?_
        simp only [Act.put, List.setIfInBounds_toArray, List.set_cons_zero, List.set_cons_succ]
        refine anyH_take (i := 5) (v := .int .i64 (k + 1 : Nat)) rfl (some 24) rfl (by kernel_rfl) (by kernel_rfl) (by kernel_rfl) (fun _ _ _ h => by cases h.1) rfl (fun w0 hw0 => (ex_add rfl rfl rfl).trans (by rw [hw1]; rfl)) S0 ?_
        simp only [Act.put, List.setIfInBounds_toArray, List.set_cons_zero, List.set_cons_succ]
        refine anyH_take (i := 6) (v := .slice (offE (some ⟨b, off, none⟩) (k + 1) cap) (m - (k + 1)) (cap - (k + 1))) rfl (some 25) rfl (by kernel_rfl) (by kernel_rfl) (by kernel_rfl) (fun _ _ _ h => by cases h.1) rfl (fun w0 hw0 => ex_hi rfl rfl rfl (by omega)) S0 ?_
        simp only [Act.put, List.setIfInBounds_toArray, List.set_cons_zero, List.set_cons_succ]
        refine anyH_one (i := 7) (by kernel_rfl) ?_
        refine op_run rfl (some 26) rfl rfl (ex_slice (us := #[(0, .slice (offE (some ⟨b, off, none⟩) 0 cap) k cap), (1, .slice (offE (some ⟨b, off, none⟩) (k + 1) cap) (m - (k + 1)) (cap - (k + 1)))]) rfl (by simp [Act.eval]) (run_two _ _ _ _ _ _ V0)) ?_
        refine ⟨(Below.refl _ V0).alloc (Nat.le_refl _) _, ?_⟩
        simp only [Act.put, List.setIfInBounds_toArray, List.set_cons_zero, List.set_cons_succ]
        obtain ⟨V1, hV1⟩ : ∃ V1, V0.alloc (.cells #[.slice (offE (some ⟨b, off, none⟩) 0 cap) k cap, .slice (offE (some ⟨b, off, none⟩) (k + 1) cap) (m - (k + 1)) (cap - (k + 1))] 22) = V1 := ⟨_, rfl⟩
        have b1 : Below V0.heap.size V0 V1 := by rw [← hV1]; exact (Below.refl _ V0).alloc (Nat.le_refl _) _
        have f1 : V1.heap[V0.heap.size]? = some (.cells #[.slice (offE (some ⟨b, off, none⟩) 0 cap) k cap, .slice (offE (some ⟨b, off, none⟩) (k + 1) cap) (m - (k + 1)) (cap - (k + 1))] 22) := by rw [← hV1]; exact heap_alloc_new V0 _
        rw [hV1]
        have B1 : Below w.heap.size w V1 := B0.trans (b1.mono B0.size)
        have hE := (HM.out.below B1).more B1.size
        have HC := hide (concat_any [(offE (some ⟨b, off, none⟩) 0 cap, cap, l.take k), (offE (some ⟨b, off, none⟩) (k + 1) cap, cap - (k + 1), l.drop (k + 1))] V0.heap.size V1 (by rw [f1]; simp [partV, HL.out]; omega) (by
            intro p hp
            simp at hp
            rcases hp with rfl | rfl
            · have := (hE.drop 0 (cap := cap) (by have := HL.out; omega)).take k
              rwa [List.drop_zero] at this
            · exact hE.drop (k + 1) (by have := HL.out; omega)) (by simp [partsL, HL.out]; omega) (by simp))
        refine anyH_one (i := 8) (by kernel_rfl) ?_
        refine op_call rfl (some 27) rfl rfl #[.slice (some ⟨V0.heap.size, 0, none⟩) 2 2] rfl (by simp [Act.eval]) (fun _ _ => rfl) HC.out ?_
        rintro e V2 ⟨v, rfl, y1, b2⟩
        have B2 : Below w.heap.size w V2 := B1.trans (b2.mono B1.size)
        refine ⟨_, rfl, b1.trans (b2.mono b1.size), ?_⟩
        simp only [Act.put, List.setIfInBounds_toArray, List.set_cons_zero, List.set_cons_succ]
        refine anyH_more (fun V => Below V2.heap.size V2 V) (fun V hV => (b1.trans ((b2.trans (hV.mono b2.size)).mono b1.size))) ?_
        have S2 : Below V2.heap.size V2 V2 := Below.refl _ _
        refine anyH_val (i := 9) (by kernel_rfl) rfl (some 4) rfl rfl (ex_any rfl rfl) S2 ?_
        simp only [Act.put, List.setIfInBounds_toArray, List.set_cons_zero, List.set_cons_succ]
        refine anyH_val (i := 10) (by kernel_rfl) rfl (some 5) rfl rfl (ex_any rfl rfl) S2 ?_
        simp only [Act.put, List.setIfInBounds_toArray, List.set_cons_zero, List.set_cons_succ]
        exact wpAnyH_done (by kernel_rfl) ⟨rfl, v, _, _, _, _, _, _, _, _, _, _, _, _, _, _, _, _, _, _, _, _, _, _, _, _, _, _, by simpa [partsL] using own_less y1 B1.size, B2, rfl⟩ _
      case beh =>
        rintro a W ⟨v, x0, x1, x2, x3, x6, x7, x8, x9, x10, x11, x12, x13, x14, x15, x16, x17, x18, x19, x20, x21, x22, x23, x24, x25, x26, x27, y1, y2, rfl⟩
        obtain ⟨ga, gc, rfl⟩ := own_shape y1
        have HY := hide (And.intro y1 y2)
        clear y1 y2
        go_wp2_with fail
        go_ret2
        exact ⟨_, _, _, rfl, HY.out.1, .inr (.inr ⟨HX.out.1, rfl, k, x, HX.out.2.1, HX.out.2.2.1, HX.out.2.2.2.1, rfl⟩), HY.out.2⟩
    · have hp : pOf l s = none := pOf_no hn.2.2.1 hk hx
      have HX := hide (And.intro hn (And.intro hp hB))
      clear hn hp hB hx hk HF HR
      go_wp2_with fail
      go_ret2
      exact ⟨_, _, [], rfl, World.ownsRow_nil _ _ _ _, .inr (.inl ⟨HX.out.1, HX.out.2.1, rfl, rfl⟩), HX.out.2.2⟩
  · go_ret2
    exact ⟨_, _, [], rfl, World.ownsRow_nil _ _ _ _, .inl ⟨hn, rfl, rfl⟩, b1⟩
end Go.Proofs.Ytlafjddidlofcaa
