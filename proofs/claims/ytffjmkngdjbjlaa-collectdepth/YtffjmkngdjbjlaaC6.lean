/- Parent; slices.Collect of names; Above. -/
import Derived.Test.YtffjmkngdjbjlaaC5
namespace Go.Proofs.Ytffjmkngdjbjlaa
open Go.RowKit Go.Shelf
attribute [local go_sem] Oper.semAt_some

/-- append, in a fence. -/
theorem i_append {F : Fence} {n : Nat} {w w' : World} {ops : Array Oper} {rest : List Oper} {o : Oper} {a : Act} {Q : Exit → Act → World → Prop} {s x : Operand} {t t' : TypeId} {u v r : Value} (hg : o.guard = none) (ho : o.op = .call { callee := .builtin .append, args := #[s, x], argTypes := #[t, t'] }) (hs : a.eval s = u) (hx : a.eval x = v) (hr : (Builtin.append_ #[t, t'] o.type #[u, v]).run Try.prog w = .ok r w') (h : wpListIn F n Try.prog ops Q rest (a.put o.dst r) w') : wpListIn F n Try.prog ops Q (o :: rest) a w := by
  refine wpListIn_plain hg fun K hK' => ?_
  unfold Oper.wpIn
  refine ⟨by simp [Oper.about, ho, resolve, Target.leads, Sem.run_pure], ?_⟩
  rw [Oper.semAt_plain F _ _ (by rw [ho]; intro c hc'; cases hc')]
  simp [execOp, ho, resolve, invoke, builtin, hs, hx, hr, Result.andThen]
  exact hK' _ _ h
def strC (l : List ByteArray) : List Value := l.map Value.string
theorem info9 : (Try.prog.info? 9).map (fun i => (i.zero, i.size, i.bytes)) = some (some (.string ⟨#[]⟩), 1, 16) := by kernel_rfl
set_option maxRecDepth 100000 in
set_option maxHeartbeats 1000000 in
theorem parent_any (ao : Option Addr) (cap : Nat) (l : List Pr) (s : ByteArray) (w : World) (hm : EdMem w.heap.size w ao l) :
    Calls Try.prog 16 #[.slice ao l.length cap, .string s] w fun e w' => ((∃ p, RightE l ∧ pOf l s = some p ∧ e = .returned (.tuple #[.string p, .bool true])) ∨ (¬ (RightE l ∧ ∃ p, pOf l s = some p) ∧ e = .returned (.tuple #[.string ⟨#[]⟩, .bool false]))) ∧ Below w.heap.size w w' := by
  have HR := hide (right_any ao cap l w hm)
  have HM := hide hm
  obtain ⟨m, hml⟩ : ∃ m, l.length = m := ⟨_, rfl⟩
  have HL := hide hml
  rw [hml] at HR ⊢
  clear hm hml
  go_enter Try.func16, Try.ntmps16
  go_wp2_with (go_at_call 17; refine HR.out.mono ?_; rintro e w1 ⟨h | h, b1⟩ <;> obtain ⟨hn, rfl⟩ := h)
  · have HF := hide (find_any ao cap l s w1 ((HM.out.below b1).more b1.size) hn.2.2.1)
    rw [HL.out] at HF
    refine HF.out.mono ?_
    rintro e w2 ⟨⟨k, hk, h⟩, b2⟩
    have hB : Below w.heap.size w w2 := b1.trans (b2.mono b1.size)
    rcases h with ⟨x, hx, he, rfl⟩ | ⟨hx, rfl⟩
    · have hkm : k < m := by have := (List.getElem?_eq_some_iff.1 hx).1; have := HL.out; omega
      have hkmi : (k : Int) < m := by omega
      have hp : pOf l s = some x.2 := by rw [← he]; exact pOf_yes hn.2.2.1 hx
      obtain ⟨b, off, rfl, hbl, c0, c1⟩ := (HM.out.below hB).2 k x hx
      have HX := hide (And.intro hn (And.intro hp hB))
      clear hn hp hB hx he hk b1 b2 HF HR
      go_wp2_with fail
      go_ret2
      exact ⟨.inl ⟨_, HX.out.1, HX.out.2.1, rfl⟩, HX.out.2.2⟩
    · have hp : pOf l s = none := pOf_no hn.2.2.1 hk hx
      have HX := hide (And.intro hp hB)
      clear hp hB hx hk HF HR
      go_wp2_with fail
      go_ret2
      exact ⟨.inr ⟨fun ⟨_, p, h⟩ => (by rw [HX.out.1] at h; cases h), rfl⟩, HX.out.2⟩
  · go_ret2
    exact ⟨.inr ⟨fun h => hn h.1, rfl⟩, b1⟩
set_option maxRecDepth 100000 in
set_option maxHeartbeats 4000000 in
theorem appendSeq_any (n₀ : Nat) (ao : Option Addr) (ecap : Nat) (l : List Pr) (s : ByteArray) (b1 b2 : Nat) (w : World) (h : EdMem n₀ w ao l) (hr : Rising l) (g1 : w.heap[b1]? = some (.cells #[.string s] 9)) (g2 : w.heap[b2]? = some (.cells #[.slice ao l.length ecap] 50)) (hb : n₀ ≤ b1 ∧ n₀ ≤ b2) (hn : n₀ ≤ w.heap.size) :
    Calls Try.prog 53 #[.slice none 0 0, upV b1 b2] w fun e w' => ∃ v, e = .returned v ∧ w'.ownsRow w.heap.size 9 1 v (chain l l.length s).length (strC (chain l l.length s)) ∧ Below n₀ w w' := by
  obtain ⟨Wa, hWa⟩ : ∃ Wa, w.alloc (.cells #[.slice none 0 0] 35) = Wa := ⟨_, rfl⟩
  have fa : Wa.heap[w.heap.size]? = some (.cells #[.slice none 0 0] 35) := by rw [← hWa]; exact heap_alloc_new w _
  have za : Wa.heap.size = w.heap.size + 1 := by rw [← hWa]; simp
  have hBa : Below w.heap.size w Wa := by rw [← hWa]; exact (Below.refl _ w).alloc (Nat.le_refl _) _
  have hl1 := hp_lt g1
  have hl2 := hp_lt g2
  have hseq := up_seq (3 - 1) n₀ ao ecap l s b1 b2 Wa (h.below (hBa.mono hn)) hr ((hBa.block b1 hl1).trans g1) ((hBa.block b2 hl2).trans g2) hb
  obtain ⟨S, hS⟩ : ∃ S, chain l l.length s = S := ⟨_, rfl⟩
  have hSl : S.length ≤ 1000000 := by rw [← hS]; exact Nat.le_trans (chain_len _ _ _) h.1
  rw [hS] at hseq ⊢
  have HQ := hide hseq
  have HA := hide (And.intro fa hBa)
  clear hseq h hr g1 g2 fa hBa hS
  refine (callsIn_wide (n := 3)).1 ?_
  refine callsIn_of_wp_marks Try.func53 rfl trivial ?_ rfl
  simp only [Try.ntmps53, List.size_toArray, List.length_cons, List.length_nil, Nat.reduceAdd, Nat.reduceSub, Array.replicate_succ, Array.replicate_zero, List.push_toArray, List.append_toArray, List.nil_append, List.cons_append]
  gi_wp2_with fail
  refine range_plain .ret .ret (.inl ⟨rfl, rfl⟩) (it := 54) (pre := #[]) (held := #[.pointer (some ⟨b1, 0, none⟩), .pointer (some ⟨b2, 0, none⟩)]) (by omega) rfl trivial rfl (enters_of Try.func54 (by kernel_rfl) rfl) (n₀ := n₀) (by omega) (Below.refl _ _)
    (fun j hj => by rcases hj with rfl | rfl <;> omega) HQ.out (fun _ => rfl)
    (fun M k W => ∃ v, W.heap[w.heap.size]? = some (.cells #[v] 35) ∧ W.ownsRow w.heap.size 9 1 v k (strC (S.take k)) ∧ (∀ j, v.ownBlock = some j → ¬ M j) ∧ ¬ M w.heap.size ∧ Below n₀ w W)
    (fun _ _ => False)
    ?hI ?hIx ?h0
    (fun k => { tmps := #[.slice none 0 0, upV b1 b2, .pointer (some ⟨w.heap.size, 0, none⟩), undef, .slice none 0 0, nmV S k, upV b1 b2, nmV S k, undef, undef, undef, undef, undef], defers := [] })
    ?assign ?body ?done ?stop
  case hI =>
    rintro M M' k A B ⟨v, i0, i1, i2, i3, i4⟩ hb hc hm
    refine ⟨v, hc _ _ i0 (.inl rfl) i3, own_same i1 (fun g e => ?_), fun j e hj => i2 j e (hm j (own_lt i1 j e) hj), fun h => i3 (hm _ (hp_lt i0) h), i4.trans hb⟩
    obtain ⟨_, ⟨rfl, _⟩ | ⟨g', cap, cur, rfl, x1, x2, _⟩⟩ := i1
    · cases e
    · cases e
      exact (hc g' _ x2 (.inl rfl) (i2 g' rfl)).trans x2.symm
  case hIx => exact fun k A B h => h.elim
  case h0 => exact ⟨_, HA.out.1, World.ownsRow_nil _ _ _ _, fun j e => (by cases e), fun h => (by rcases h with h | h <;> omega), HA.out.2.mono hn⟩
  case assign =>
    intro l k W K hk hK
    gi_wp2_with fail
    exact hK
  case body =>
    rintro l M k W ⟨v, i0, i1, i2, i3, i4⟩ hk hM
    obtain ⟨x, hx⟩ : ∃ x, S[k]? = some x := ⟨S[k], by simp [hk]⟩
    have hv : nmV S k = .string x := by simp [nmV, hx]
    have hc0 : W.cell? ⟨w.heap.size, 0, none⟩ = some v := one_cell i0
    have hf0 : W.frozen? ⟨w.heap.size, 0, none⟩ = false := by simp [World.frozen?, i0]
    obtain ⟨W3, hW3⟩ : ∃ W3, W.alloc (.cells #[.string x] 9) = W3 := ⟨_, rfl⟩
    have hB3 : Below W.heap.size W W3 := by rw [← hW3]; exact (Below.refl _ W).alloc (Nat.le_refl _) _
    have hc3 := cell_one_new W (.string x) 9
    rw [hW3] at hc3
    obtain ⟨ti, t1, t2, t3, t4⟩ := info_parts info9
    have hWz : w.heap.size ≤ W.heap.size := i4.size
    have hbz := hB3.size
    obtain ⟨v', w4, hap, y1, y2, _, y4⟩ := run_append_own_at (P := Try.prog) W3 w.heap.size 35 35 9 ti _ 1 16 Try.underlying35 t1 t2 t3 t4 rfl (by omega) v k (strC (S.take k)) (own_same i1 (fun g e => hB3.block g (own_lt i1 g e))) ⟨W.heap.size, 0, none⟩ 1 1 [.string x] rfl hc3 (by simp [Value.oneCell']) (by unfold maxLen; omega) (by omega) (by omega)
    have hvb : ∀ j, v.ownBlock = some j → j ≠ w.heap.size := fun j e => own_ne0 i1 i0 (by decide) j e
    have hlt0 := hp_lt i0
    have hb4 : w4.heap[w.heap.size]? = some (.cells #[v] 35) := (y2.block _ (by omega) (fun e => hvb _ e.symm rfl)).trans ((hB3.block _ hlt0).trans i0)
    have hd0 : w4.cell? ⟨w.heap.size, 0, none⟩ = some v := one_cell hb4
    have hdf : w4.frozen? ⟨w.heap.size, 0, none⟩ = false := by simp [World.frozen?, hb4]
    have hv' : ∀ j, v'.ownBlock = some j → v.ownBlock = some j ∨ W.heap.size ≤ j := fun j e => by
      rcases y4 with z | z
      · exact .inl (z ▸ e)
      · rw [z] at e
        cases e
        exact .inr hbz
    have hMl : ∀ j, M j → n₀ ≤ j ∧ j < W.heap.size := fun j hj => by
      obtain ⟨h1, o, ho, _⟩ := hM j hj
      exact ⟨h1, hp_lt ho⟩
    have hfin : roundEndsX .ret Wa.heap.size n₀ M (fun M k W => ∃ v, W.heap[w.heap.size]? = some (.cells #[v] 35) ∧ W.ownsRow w.heap.size 9 1 v k (strC (S.take k)) ∧ (∀ j, v.ownBlock = some j → ¬ M j) ∧ ¬ M w.heap.size ∧ Below n₀ w W) (fun _ _ => False) (k + 1) W .normal ⟨#[], []⟩ (w4.setCell ⟨w.heap.size, 0, none⟩ v') := by
      have hBn : Below n₀ W (w4.setCell ⟨w.heap.size, 0, none⟩ v') := (((hB3.mono (by omega)).grown y2 (by omega) (fun j e => by have := own_base i1 j e; omega)).setCell (p := ⟨w.heap.size, 0, none⟩) hn _)
      refine ⟨⟨hBn.size, fun j o hj ho hc => ?_⟩, fun j hj => ?_, hBn, v', heap_setCell_same _ _ 0 _ _ _ hb4, ?_, fun j e hj => ?_, i3, i4.trans hBn⟩
      · have hjl := hp_lt ho
        have hj1 : j ≠ w.heap.size := fun e => by rw [e, i0] at ho; cases ho; cases hc
        have hj2 : v.ownBlock ≠ some j := fun e => by
          obtain ⟨_, ⟨rfl, _⟩ | ⟨g', cap, cur, rfl, z1, z2, _⟩⟩ := i1
          · cases e
          · cases e
            rw [z2] at ho
            cases ho
            cases hc
        exact (Below.heap_setCell _ _ _ _ hj1).trans ((y2.block j (by omega) (fun e => hj2 e.symm)).trans ((hB3.block j hjl).trans ho))
      · have hjl := (hMl j hj).2
        have hj1 : j ≠ w.heap.size := fun e => i3 (by rw [← e]; exact hj)
        exact (Below.heap_setCell _ _ _ _ hj1).trans ((y2.block j (by omega) (fun e => i2 j e.symm hj)).trans (hB3.block j hjl))
      · rw [List.take_add_one, hx]
        have he : strC (S.take k ++ [x]) = strC (S.take k) ++ [.string x] := by simp [strC]
        show World.ownsRow _ _ _ _ _ _ (strC (S.take k ++ [x]))
        rw [he]
        exact own_same y1 (fun g e => Below.heap_setCell _ _ _ _ (by
          rcases hv' g e with z | z
          · exact hvb g z
          · show g ≠ w.heap.size
            omega))
      · rcases hv' j e with z | z
        · exact i2 j z hj
        · have := (hMl j hj).2
          omega
    have HAp := hide hap
    have HF := hide hfin
    obtain ⟨ga, gc, rfl⟩ := own_shape i1
    obtain ⟨k1, hk1⟩ : ∃ k1, k + 1 = k1 := ⟨_, rfl⟩
    have hs5 := own_shape y1
    rw [hk1] at hs5
    obtain ⟨ga', gc', rfl⟩ := hs5
    clear hap hfin y1 y2 y4 hB3 i1 i2 i3 i4 hM hMl hv' hvb hb4 t1 t2 t3 t4 hc3 hk1
    rw [hv]
    gi_wp2_with (refine i_append (t := 35) (t' := 35) rfl rfl rfl rfl HAp.out ?_)
    exact HF.out
  case done =>
    rintro D M W hD ⟨v, i0, i1, i2, i3, i4⟩ hK
    have hc0 : W.cell? ⟨w.heap.size, 0, none⟩ = some v := one_cell i0
    rw [List.take_length] at i1
    obtain ⟨m, hm⟩ : ∃ m, S.length = m := ⟨_, rfl⟩
    rw [hm] at i1
    obtain ⟨ga, gc, rfl⟩ := own_shape i1
    have HE := hide (And.intro i1 (And.intro i4 (And.intro hK hm)))
    clear i0 i1 i2 i3 i4 hK hm
    gi_wp2_with fail
    obtain ⟨i1, i4, hK, hm⟩ := HE.out
    refine ⟨by simp, .inl ⟨_, _, rfl, run_takeDeferred hK, ?_⟩⟩
    have hgD : ∀ g, (Value.slice ga m gc).ownBlock = some g → g ≠ D := fun g e e2 => by
      obtain ⟨_, ⟨z1, _⟩ | ⟨g', cap, cur, z1, _, z2, _⟩⟩ := i1
      · rw [z1] at e
        cases e
      · rw [z1] at e
        cases e
        have e3 : g' = D := e2
        rw [e3, hK] at z2
        cases z2
    refine ⟨_, results_tmp rfl _ _ _, _, rfl, ?_, i4.trans (below_put _ _ (by omega))⟩
    rw [hm]
    exact own_same i1 (fun g e => World.putObj_heap_other (hgD g e))
  case stop => exact fun D k W hD hk h => h.elim
set_option maxRecDepth 100000 in
theorem collect_any (n₀ : Nat) (ao : Option Addr) (ecap : Nat) (l : List Pr) (s : ByteArray) (b1 b2 : Nat) (w : World) (h : EdMem n₀ w ao l) (hr : Rising l) (g1 : w.heap[b1]? = some (.cells #[.string s] 9)) (g2 : w.heap[b2]? = some (.cells #[.slice ao l.length ecap] 50)) (hb : n₀ ≤ b1 ∧ n₀ ≤ b2) (hn : n₀ ≤ w.heap.size) :
    Calls Try.prog 32 #[upV b1 b2] w fun e w' => ∃ v, e = .returned v ∧ w'.ownsRow w.heap.size 9 1 v (chain l l.length s).length (strC (chain l l.length s)) ∧ Below n₀ w w' := by
  have HA := hide (appendSeq_any n₀ ao ecap l s b1 b2 w h hr g1 g2 hb hn)
  obtain ⟨S, hS⟩ : ∃ S, chain l l.length s = S := ⟨_, rfl⟩
  rw [hS] at HA ⊢
  clear h hr g1 g2 hS
  go_enter Try.func32, Try.ntmps32
  go_wp2_with (go_at_call 53; refine HA.out.mono ?_; rintro e w1 ⟨v, rfl, y1, y2⟩)
  go_ret
  exact ⟨_, rfl, y1, y2⟩
/-- The names above one, of edges that are right. -/
def aboveL (l : List Pr) (s : ByteArray) : List ByteArray := chain l l.length s
set_option maxRecDepth 100000 in
set_option maxHeartbeats 1000000 in
theorem above_any (ao : Option Addr) (cap : Nat) (l : List Pr) (s : ByteArray) (w : World) (hm : EdMem w.heap.size w ao l) :
    Calls Try.prog 18 #[.slice ao l.length cap, .string s] w fun e w' => ∃ v ns, e = .returned v ∧ w'.ownsRow w.heap.size 9 1 v ns.length (strC ns) ∧ ((RightE l ∧ ns = aboveL l s) ∨ (¬ RightE l ∧ ns = [])) ∧ Below w.heap.size w w' := by
  have HR := hide (right_any ao cap l w hm)
  have HM := hide hm
  obtain ⟨m, hml⟩ : ∃ m, l.length = m := ⟨_, rfl⟩
  have HL := hide hml
  rw [hml] at HR ⊢
  clear hm hml
  go_enter Try.func18, Try.ntmps18
  go_wp2_with (go_at_call 17; refine HR.out.mono ?_; rintro e w1 ⟨h | h, b1⟩ <;> obtain ⟨hn, rfl⟩ := h)
  · refine (up_any (.slice ao m cap) s w1 ⟨_, _, _, rfl⟩).mono ?_
    rintro e w2 ⟨rfl, u1, u2, z2, b2⟩
    have hz := b1.size
    have hB : Below w.heap.size w w2 := b1.trans (b2.mono b1.size)
    have HC := hide (collect_any w.heap.size ao cap l s (w1.heap.size + 1) w1.heap.size w2 (HM.out.below hB) hn.2.2.1 u1 (by rw [HL.out]; exact u2) ⟨by omega, by omega⟩ (by omega))
    have HX := hide (And.intro hn hB)
    clear hn hB b1 b2 u1 u2 HR
    go_wp2_with (go_at_call 32; refine HC.out.mono ?_; rintro e w3 ⟨v, rfl, y1, y2⟩)
    go_ret
    exact ⟨v, _, rfl, own_less y1 (by omega), .inl ⟨HX.out.1, rfl⟩, HX.out.2.trans y2⟩
  · go_ret
    exact ⟨_, [], rfl, World.ownsRow_nil _ _ _ _, .inr ⟨hn, rfl⟩, b1⟩
end Go.Proofs.Ytffjmkngdjbjlaa
