/- Requests are held against each other. RequestOne: unlike requests have unlike payloads. -/
import Derived.Test.YtimhkgpjfppkmaaDoorRq13
namespace Go.Proofs.YtimhkgpjfppkmaaDoor
open Go.RowKit Go.Shelf

def eqRq (a b : Rq) : Bool := (((a.verb : Int) == (b.verb : Int)) && ((a.node.toList == b.node.toList) && ((a.item.toList == b.item.toList) && ((a.jid.toList == b.jid.toList) && (((a.role : Int) == (b.role : Int)) && (((a.acc : Int) == (b.acc : Int)) && ((a.max == b.max) && ((a.depth == b.depth) && ((a.parent.toList == b.parent.toList) && ((a.coll == b.coll) && (a.text.toList == b.text.toList)))))))))))
theorem list_ext {s t : ByteArray} (h : s.toList = t.toList) : s = t := by
  rw [ByteArray.toList_eq, ByteArray.toList_eq] at h
  obtain ⟨⟨x⟩⟩ := s
  obtain ⟨⟨y⟩⟩ := t
  exact congrArg (fun l => (⟨⟨l⟩⟩ : ByteArray)) (by simpa using h)
theorem eqRq_iff (a b : Rq) : eqRq a b = true ↔ a = b := by
  constructor
  · intro h
    unfold eqRq at h
    simp only [Bool.and_eq_true, beq_iff_eq] at h
    obtain ⟨h0, h1, h2, h3, h4, h5, h6, h7, h8, h9, h10⟩ := h
    obtain ⟨a0, a1, a2, a3, a4, a5, a6, a7, a8, a9, a10⟩ := a
    obtain ⟨b0, b1, b2, b3, b4, b5, b6, b7, b8, b9, b10⟩ := b
    simp only at h0 h1 h2 h3 h4 h5 h6 h7 h8 h9 h10
    rw [show a0 = b0 by omega, list_ext h1, list_ext h2, list_ext h3, show a4 = b4 by omega, show a5 = b5 by omega, h6, h7, list_ext h8, h9, list_ext h10]
  · intro h
    subst h
    unfold eqRq
    simp
set_option maxRecDepth 100000 in
set_option maxHeartbeats 4000000 in
theorem eql_rq (a b : Rq) (w : World) : (binOp .eql 26 (.agg (rqA a)) (.agg (rqA b))).run Tryd.prog w = .ok (.bool (eqRq a b)) w := by
  have u := Tryd.underlying26
  unfold eqRq rqA
  cases h0 : ((a.verb : Int) == (b.verb : Int)) with
  | false => go_simp
  | true =>
    cases h1 : (a.node.toList == b.node.toList) with
    | false => go_simp
    | true =>
      cases h2 : (a.item.toList == b.item.toList) with
      | false => go_simp
      | true =>
        cases h3 : (a.jid.toList == b.jid.toList) with
        | false => go_simp
        | true =>
          cases h4 : ((a.role : Int) == (b.role : Int)) with
          | false => go_simp
          | true =>
            cases h5 : ((a.acc : Int) == (b.acc : Int)) with
            | false => go_simp
            | true =>
              cases h6 : (a.max == b.max) with
              | false => go_simp
              | true =>
                cases h7 : (a.depth == b.depth) with
                | false => go_simp
                | true =>
                  cases h8 : (a.parent.toList == b.parent.toList) with
                  | false => go_simp
                  | true =>
                    cases h9 : (a.coll == b.coll) with
                    | false => go_simp
                    | true =>
                      cases h10 : (a.text.toList == b.text.toList) with
                      | false => go_simp
                      | true =>
                        go_simp
theorem eqGuardRq (x y : Operand) (a b : Array Value) (w : World) : (eqGuard .eql 26 x y (.agg a) (.agg b)).run Tryd.prog w = .ok () w := by
  unfold eqGuard
  simp [go_sem]
theorem ex_eqRq {o : Oper} {c : Act} {w : World} {T' : TypeId} {x y : Operand} {a b : Rq} (ho : o.op = .binOp .eql 26 x y T') (hx : c.eval x = .agg (rqA a)) (hy : c.eval y = .agg (rqA b)) : (execOp c.eval o).run Tryd.prog w = .ok (.value (.bool (eqRq a b))) w := by
  unfold execOp
  simp only [ho, hx, hy]
  simp only [Sem.run_bind, eqGuardRq, eql_rq, Result.andThen_ok, Sem.run_pure]
end Go.Proofs.YtimhkgpjfppkmaaDoor
namespace Go.Proofs.YtimhkgpjfppkmaaDoor
open Go.RowKit Go.Shelf

theorem ex_eqbb {o : Oper} {a : Act} {w : World} {x y : Operand} {s : Bool} (ho : o.op = .binOp .eql 4 x y 4) (hx : a.eval x = .bool s) (hy : a.eval y = .bool s) : (execOp a.eval o).run Tryd.prog w = .ok (.value (.bool true)) w := by
  unfold execOp
  simp only [ho, hx, hy]
  go_simp
theorem enc_len {r : Rq} : (encT r).length ≤ 10 := by
  unfold encT elemT charsT
  split <;> simp
set_option maxRecDepth 100000 in
set_option maxHeartbeats 4000000 in
theorem requestOne_any (a b : Rq) (w : World) (ha : RqFits a) (hb : RqFits b) (hG : GlbR w) :
    Calls Tryd.prog 5 #[.agg (rqA a), .agg (rqA b)] w fun e w' => e = .returned (.bool true) ∧ Below w.heap.size w w' := by
  obtain ⟨W1, hW1⟩ : ∃ W1, w.alloc (.cells (rqA a) 26) = W1 := ⟨_, rfl⟩
  obtain ⟨W2, hW2⟩ : ∃ W2, W1.alloc (.cells (rqA b) 26) = W2 := ⟨_, rfl⟩
  have b1 : Below w.heap.size w W1 := by rw [← hW1]; exact (Below.refl _ w).alloc (Nat.le_refl _) _
  have b2 : Below W1.heap.size W1 W2 := by rw [← hW2]; exact (Below.refl _ W1).alloc (Nat.le_refl _) _
  have z1 : W1.heap.size = w.heap.size + 1 := by rw [← hW1]; simp
  have f1 : W1.heap[w.heap.size]? = some (.cells (rqA a) 26) := by rw [← hW1]; exact World.alloc_heap_new _ _
  have fb : W2.heap[w.heap.size + 1]? = some (.cells (rqA b) 26) := by rw [← hW2, ← z1]; exact World.alloc_heap_new _ _
  have fa := (b2.block _ (by omega)).trans f1
  have B2 : Below w.heap.size w W2 := b1.trans (b2.mono b1.size)
  have HEa := hide (encode_any a W2 ha (hG.below B2))
  have HLa := hide (load_rq fa)
  have H := hide (And.intro fa (And.intro fb (And.intro B2 (And.intro (hG.below B2) hb))))
  rw [← hW1] at hW2
  have HW2 := hide hW2
  rw [← hW2] at HEa HLa
  clear hW1 hW2 b1 b2 z1 f1 fb fa B2 ha hb hG
  go_enter Tryd.func5, Tryd.ntmps5
  go_wp2_with (refine l_load _ HLa.out rfl rfl rfl ?_)
  refine HEa.out.mono ?_
  rintro e w3 ⟨hEa, b3⟩
  have hW2 : (w.alloc (.cells (rqA a) 26)).alloc (.cells (rqA b) 26) = W2 := HW2.out
  rw [hW2] at b3 hEa
  have fa3 := (b3.block _ (Array.getElem?_eq_some_iff.1 H.out.1).1).trans H.out.1
  have fb3 := (b3.block _ (Array.getElem?_eq_some_iff.1 H.out.2.1).1).trans H.out.2.1
  have HEb := hide (encode_any b w3 H.out.2.2.2.2 (H.out.2.2.2.1.below b3))
  have HLb := hide (load_rq fb3)
  have H3 := hide (And.intro fa3 (And.intro fb3 (And.intro (H.out.2.2.1.trans (b3.mono H.out.2.2.1.size)) (H.out.2.2.2.1.below b3))))
  clear hW2 b3 fa3 fb3 HEa HLa HW2
  rcases hEa with ⟨hra, va, la, rfl, hla, hERa⟩ | ⟨hra, rfl⟩
  · have hna : la.length = (encT a).length := by rw [← hla, List.length_map]
    obtain ⟨aoa, capa, rfl, hTa⟩ := tokMem_own hERa (by have := enc_len (r := a); omega)
    rw [hla] at hTa
    rw [hna]
    obtain ⟨na, hnna⟩ : ∃ n, (encT a).length = n := ⟨_, rfl⟩
    have HTa := hide (And.intro hTa (And.intro hra hnna))
    rw [hnna]
    clear hTa hra hla hERa hna hnna
    go_wp2_with (refine l_load _ HLb.out rfl rfl rfl ?_)
    refine HEb.out.mono ?_
    rintro e w4 ⟨hEb, b4⟩
    have fa4 := (b4.block _ (Array.getElem?_eq_some_iff.1 H3.out.1).1).trans H3.out.1
    have fb4 := (b4.block _ (Array.getElem?_eq_some_iff.1 H3.out.2.1).1).trans H3.out.2.1
    have hTa4 := tok_raise (HTa.out.1.below b4) b4.size
    have H4 := hide (And.intro fa4 (And.intro fb4 (And.intro (H3.out.2.2.1.trans (b4.mono H3.out.2.2.1.size)) (And.intro (H3.out.2.2.2.below b4) hTa4))))
    clear b4 fa4 fb4 hTa4 HEb HLb
    rcases hEb with ⟨hrb, vb, lb, rfl, hlb, hERb⟩ | ⟨hrb, rfl⟩
    · have hnb : lb.length = (encT b).length := by rw [← hlb, List.length_map]
      obtain ⟨aob, capb, rfl, hTb⟩ := tokMem_own hERb (by have := enc_len (r := b); omega)
      rw [hlb] at hTb
      rw [hnb]
      obtain ⟨nb, hnnb⟩ : ∃ n, (encT b).length = n := ⟨_, rfl⟩
      have HTb := hide (And.intro hTb (And.intro hrb hnnb))
      rw [hnnb]
      clear hTb hrb hlb hERb hnb hnnb
      go_wp2_with fail
      obtain ⟨V0, hV0⟩ : ∃ V, w4.drew = V := ⟨_, rfl⟩
      have c0 : Below w4.heap.size w4 V0 := by rw [← hV0]; exact (Below.refl _ _).drew
      refine region_relA (S := fun V => V.heap[w.heap.size]? = some (.cells (rqA a) 26) ∧ V.heap[w.heap.size + 1]? = some (.cells (rqA b) 26)) (fun a0 c W => ∃ xx : Nat → Value, Below w.heap.size w W ∧ c = ⟨(putA a0.tmps [26, 27, 28, 29, 30, 31, 32, 33, 34, 35] xx).setIfInBounds 4 (.bool true), a0.defers⟩) (by kernel_rfl) ?any ?fin
      case any =>
        rw [hV0]
        clear hV0
        have fa0 := (c0.block _ (Array.getElem?_eq_some_iff.1 H4.out.1).1).trans H4.out.1
        have fb0 := (c0.block _ (Array.getElem?_eq_some_iff.1 H4.out.2.1).1).trans H4.out.2.1
        refine anyH_one (i := 0) (by kernel_rfl) ?_
        refine op_call rfl (some 26) rfl (by kernel_rfl) #[] rfl (by simp) (fun _ _ => rfl) (live13_any V0 (H4.out.2.2.2.1.below c0)) ?_
        rintro e V1 ⟨rfl, c1⟩
        have c01 := c0.trans (c1.mono c0.size)
        have fa1 := (c1.block _ (Array.getElem?_eq_some_iff.1 fa0).1).trans fa0
        have fb1 := (c1.block _ (Array.getElem?_eq_some_iff.1 fb0).1).trans fb0
        refine ⟨_, rfl, ⟨fa1, fb1⟩, ?_⟩
        simp only [Act.put, List.setIfInBounds_toArray, List.set_cons_zero, List.set_cons_succ]
        refine anyH_take (i := 1) (v := .bool true) rfl (some 27) rfl (by kernel_rfl) (by kernel_rfl) (by kernel_rfl) (fun _ _ _ h => by cases h.1) (by kernel_rfl) (fun w0 hw0 => by first | rfl | kernel_rfl) ⟨fa1, fb1⟩ ?_
        simp only [Act.put, List.setIfInBounds_toArray, List.set_cons_zero, List.set_cons_succ]
        refine anyH_take (i := 2) (v := .slice aoa na capa) rfl (some 28) rfl (by kernel_rfl) (by kernel_rfl) (by kernel_rfl) (fun _ _ _ h => by cases h.1) (by kernel_rfl) (fun w0 hw0 => by first | rfl | kernel_rfl) ⟨fa1, fb1⟩ ?_
        simp only [Act.put, List.setIfInBounds_toArray, List.set_cons_zero, List.set_cons_succ]
        refine anyH_take (i := 3) (v := .slice aob nb capb) rfl (some 29) rfl (by kernel_rfl) (by kernel_rfl) (by kernel_rfl) (fun _ _ _ h => by cases h.1) (by kernel_rfl) (fun w0 hw0 => by first | rfl | kernel_rfl) ⟨fa1, fb1⟩ ?_
        simp only [Act.put, List.setIfInBounds_toArray, List.set_cons_zero, List.set_cons_succ]
        refine anyH_take (i := 5) (v := .agg (rqA a)) rfl (some 31) rfl (by kernel_rfl) (by kernel_rfl) (by kernel_rfl) (fun _ _ _ h => by cases h.1) (by kernel_rfl) (fun w0 hw0 => ex_load rfl rfl (load_rq hw0.1)) ⟨fa1, fb1⟩ ?_
        simp only [Act.put, List.setIfInBounds_toArray, List.set_cons_zero, List.set_cons_succ]
        refine anyH_take (i := 6) (v := .agg (rqA b)) rfl (some 32) rfl (by kernel_rfl) (by kernel_rfl) (by kernel_rfl) (fun _ _ _ h => by cases h.1) (by kernel_rfl) (fun w0 hw0 => ex_load rfl rfl (load_rq hw0.2)) ⟨fa1, fb1⟩ ?_
        simp only [Act.put, List.setIfInBounds_toArray, List.set_cons_zero, List.set_cons_succ]
        obtain ⟨q, hq⟩ : ∃ q, eqRq a b = q := ⟨_, rfl⟩
        refine anyH_take (i := 7) (v := .bool q) rfl (some 33) rfl (by kernel_rfl) (by kernel_rfl) (by kernel_rfl) (fun _ _ _ h => by cases h.1) (by kernel_rfl) (fun w0 hw0 => (ex_eqRq rfl rfl rfl).trans (by rw [hq])) ⟨fa1, fb1⟩ ?_
        simp only [Act.put, List.setIfInBounds_toArray, List.set_cons_zero, List.set_cons_succ]
        have hS := refSame_any aoa aob capa capb (encT a) (encT b) (avOf la) (avOf lb) V1 (tok_raise (H4.out.2.2.2.2.below c01) c01.size) (tok_raise (HTb.out.1.below c01) c01.size)
        rw [HTa.out.2.2, HTb.out.2.2] at hS
        refine anyH_one (i := 4) (by kernel_rfl) ?_
        refine op_call rfl (some 30) rfl (by kernel_rfl) #[.slice aoa na capa, .slice aob nb capb] rfl (by simp [Act.eval]) (fun _ _ => rfl) hS ?_
        rintro e V2 ⟨ht, c2⟩
        have he : e = .returned (.bool q) := by
          rcases ht with ⟨h, rfl⟩ | ⟨h, rfl⟩
          · have hab := enc_inj HTa.out.2.1 HTb.out.2.1 h
            rw [← hq, (eqRq_iff a b).2 hab]
          · cases q with
            | false => rfl
            | true => exact absurd (congrArg encT ((eqRq_iff a b).1 hq)) h
        subst he
        have c02 := c01.trans (c2.mono c01.size)
        have fa2 := (c2.block _ (Array.getElem?_eq_some_iff.1 fa1).1).trans fa1
        have fb2 := (c2.block _ (Array.getElem?_eq_some_iff.1 fb1).1).trans fb1
        refine ⟨_, rfl, ⟨fa2, fb2⟩, ?_⟩
        simp only [Act.put, List.setIfInBounds_toArray, List.set_cons_zero, List.set_cons_succ]
        refine anyH_take (i := 8) (v := .bool true) rfl (some 34) rfl (by kernel_rfl) (by kernel_rfl) (by kernel_rfl) (fun _ _ _ h => by cases h.1) (by kernel_rfl) (fun w0 hw0 => ex_eqbb rfl rfl rfl) ⟨fa2, fb2⟩ ?_
        simp only [Act.put, List.setIfInBounds_toArray, List.set_cons_zero, List.set_cons_succ]
        refine anyH_take (i := 9) (v := .bool true) rfl (some 35) rfl (by kernel_rfl) (by kernel_rfl) (by kernel_rfl) (fun _ _ _ h => by cases h.1) (by kernel_rfl) (fun w0 hw0 => Jd.ex_pkT rfl rfl rfl) ⟨fa2, fb2⟩ ?_
        simp only [Act.put, List.setIfInBounds_toArray, List.set_cons_zero, List.set_cons_succ]
        refine anyH_val (i := 10) (by kernel_rfl) rfl (some 4) rfl (by kernel_rfl) (Jd.ex_anyv rfl rfl) ⟨fa2, fb2⟩ ?_
        simp only [Act.put, List.setIfInBounds_toArray, List.set_cons_zero, List.set_cons_succ]
        exact wpAnyH_done (by kernel_rfl) ⟨rfl, fill (H4.out.2.2.1.trans (c02.mono H4.out.2.2.1.size)) (by kernel_rfl)⟩ _
      rintro c W ⟨xx, hB, rfl⟩
      have HB := hide hB
      clear hV0 c0 hB V0
      simp only [putA, List.foldl_cons, List.foldl_nil, List.setIfInBounds_toArray, List.set_cons_zero, List.set_cons_succ]
      go_wp2_with fail
      go_ret
      exact ⟨rfl, HB.out⟩
    · clear hrb
      go_wp2_with fail
      refine (live13_any w4 H4.out.2.2.2.1).mono ?_
      rintro e w5 ⟨rfl, b5⟩
      have HB := hide (H4.out.2.2.1.trans (b5.mono H4.out.2.2.1.size))
      clear b5
      go_wp2_with fail
      go_ret
      exact ⟨rfl, HB.out⟩
  · clear hra
    go_wp2_with (refine l_load _ HLb.out rfl rfl rfl ?_)
    refine HEb.out.mono ?_
    rintro e w4 ⟨hEb, b4⟩
    have H4 := hide (And.intro (H3.out.2.2.1.trans (b4.mono H3.out.2.2.1.size)) (H3.out.2.2.2.below b4))
    clear b4 HEb HLb
    rcases hEb with ⟨_, vb, lb, rfl, _, _⟩ | ⟨_, rfl⟩
    · go_wp2_with fail
      refine (live13_any w4 H4.out.2).mono ?_
      rintro e w5 ⟨rfl, b5⟩
      have HB := hide (H4.out.1.trans (b5.mono H4.out.1.size))
      clear b5
      go_wp2_with fail
      go_ret
      exact ⟨rfl, HB.out⟩
    · go_wp2_with fail
      refine (live13_any w4 H4.out.2).mono ?_
      rintro e w5 ⟨rfl, b5⟩
      have HB := hide (H4.out.1.trans (b5.mono H4.out.1.size))
      clear b5
      go_wp2_with fail
      go_ret
      exact ⟨rfl, HB.out⟩
end Go.Proofs.YtimhkgpjfppkmaaDoor
