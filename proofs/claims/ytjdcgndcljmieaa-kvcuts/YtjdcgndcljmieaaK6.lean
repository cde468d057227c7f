/- Scan: the pairs whose keys begin so, as a list. -/
import Derived.Test.YtjdcgndcljmieaaK5
namespace Go.Proofs.Ytjdcgndcljmieaa
open Go.RowKit Go.Shelf
open Go.ChangeMaps (setBlock)
attribute [local go_sem] Oper.semAt_some

def pairC1 (x : Pr) : List Value := [.string x.1, .string x.2]
def pairC (S : List Pr) : List Value := S.flatMap pairC1
theorem pairC_len (S : List Pr) : (pairC S).length = S.length * 2 := by
  induction S with
  | nil => rfl
  | cons x S ih =>
    simp only [pairC, List.flatMap_cons, List.length_append, List.length_cons] at ih ⊢
    rw [ih]
    simp [pairC1]
    omega
def obA (S : List Pr) (k : Nat) : Array Value :=
  match S[k]? with
  | none => #[]
  | some x => #[.string x.1, .string x.2]
theorem infoPair : (Try.prog.info? 55).map (fun i => (i.zero, i.size, i.bytes)) = some (some (.agg #[.string ⟨#[]⟩, .string ⟨#[]⟩]), 2, 32) := by kernel_rfl
theorem hmf (fn : Fn) (first cap : Array Value) (w : World) : (Instr.makeFunc fn first cap).run Try.prog w = .ok (.func fn first cap) w := rfl
def riseV (b1 b2 : Nat) : Value := .func (.func 43) #[] #[.pointer (some ⟨b1, 0, none⟩), .pointer (some ⟨b2, 0, none⟩)]
theorem rising_any (p : Nat) (pre : ByteArray) (w : World) : Calls Try.prog 34 #[.pointer (some ⟨p, 0, none⟩), .string pre] w fun e w' => e = .returned (riseV w.heap.size (w.heap.size + 1)) ∧ w'.heap[w.heap.size]? = some (.cells #[.pointer (some ⟨p, 0, none⟩)] 23) ∧ w'.heap[w.heap.size + 1]? = some (.cells #[.string pre] 9) ∧ w'.heap.size = w.heap.size + 2 ∧ Below w.heap.size w w' := by
  have hm := hmf
  have h1 := heap_alloc_new w (.cells #[.pointer (some ⟨p, 0, none⟩)] 23)
  have h2 := heap_alloc_new (w.alloc (.cells #[.pointer (some ⟨p, 0, none⟩)] 23)) (.cells #[.string pre] 9)
  have HH := hide (And.intro h1 h2)
  clear h1 h2
  go_enter Try.func34, Try.ntmps34
  go_wp2_with fail
  go_ret
  have hs : (w.alloc (.cells #[.pointer (some ⟨p, 0, none⟩)] 23)).heap.size = w.heap.size + 1 := by simp
  refine ⟨rfl, (Below.heap_alloc _ _ _ (by omega)).trans HH.out.1, ?_, by simp, ((Below.refl _ w).alloc (Nat.le_refl _) _).alloc (by omega) _⟩
  rw [← hs]
  exact HH.out.2
set_option maxRecDepth 100000 in
set_option maxHeartbeats 4000000 in
theorem appendSeq_any (n₀ base p b : Nat) (L : List Pr) (pre : ByteArray) (b1 b2 : Nat) (w : World) (h : IsM base p b L w) (hL : L.length ≤ 128) (hlo : p < n₀ ∧ b < n₀) (g1 : w.heap[b1]? = some (.cells #[.pointer (some ⟨p, 0, none⟩)] 23)) (g2 : w.heap[b2]? = some (.cells #[.string pre] 9)) (hb : n₀ ≤ b1 ∧ n₀ ≤ b2) (hn : n₀ ≤ w.heap.size) :
    Calls Try.prog 47 #[.slice none 0 0, riseV b1 b2] w fun e w' => ∃ v, e = .returned v ∧ w'.ownsRow w.heap.size 55 2 v (scanM L pre).length (pairC (scanM L pre)) ∧ Below n₀ w w' := by
  obtain ⟨Wa, hWa⟩ : ∃ Wa, w.alloc (.cells #[.slice none 0 0] 52) = Wa := ⟨_, rfl⟩
  have fa : Wa.heap[w.heap.size]? = some (.cells #[.slice none 0 0] 52) := by rw [← hWa]; exact heap_alloc_new w _
  have za : Wa.heap.size = w.heap.size + 1 := by rw [← hWa]; simp
  have hBa : Below w.heap.size w Wa := by rw [← hWa]; exact (Below.refl _ w).alloc (Nat.le_refl _) _
  have hl1 := hp_lt g1
  have hl2 := hp_lt g2
  have hseq := rising_seq (3 - 1) n₀ base p b L pre b1 b2 Wa (h.below hBa) hL hlo ((hBa.block b1 hl1).trans g1) ((hBa.block b2 hl2).trans g2) hb
  obtain ⟨S, hS⟩ : ∃ S, scanM L pre = S := ⟨_, rfl⟩
  have hSl : S.length ≤ 128 := by rw [← hS]; exact Nat.le_trans (List.length_filter_le _ _) hL
  rw [hS] at hseq ⊢
  have HQ := hide hseq
  have HA := hide (And.intro fa hBa)
  clear hseq h g1 g2 fa hBa hS
  refine (callsIn_wide (n := 3)).1 ?_
  refine callsIn_of_wp_marks Try.func47 rfl trivial ?_ rfl
  simp only [Try.ntmps47, List.size_toArray, List.length_cons, List.length_nil, Nat.reduceAdd, Nat.reduceSub, Array.replicate_succ, Array.replicate_zero, List.push_toArray, List.append_toArray, List.nil_append, List.cons_append]
  gi_wp2_with fail
  refine range_own (it := 43) (pre := #[]) (held := #[.pointer (some ⟨b1, 0, none⟩), .pointer (some ⟨b2, 0, none⟩)]) (by omega) rfl trivial rfl (enters_of Try.func43 (by kernel_rfl) rfl) (n₀ := n₀) (by omega) (Below.refl _ _)
    (fun j hj => by rcases hj with rfl | rfl <;> omega) HQ.out (fun _ => rfl)
    (fun M k W => ∃ v, W.heap[w.heap.size]? = some (.cells #[v] 52) ∧ W.ownsRow w.heap.size 55 2 v k (pairC (S.take k)) ∧ (∀ j, v.ownBlock = some j → ¬ M j) ∧ ¬ M w.heap.size ∧ Below n₀ w W)
    (fun _ _ => False)
    ?hI ?hIx ?h0 (fun k => .cells (obA S k) 55)
    (fun k bs => { tmps := #[.slice none 0 0, riseV b1 b2, .pointer (some ⟨w.heap.size, 0, none⟩), undef, .slice none 0 0, .pointer (some ⟨bs, 0, none⟩), riseV b1 b2, pairV S k, undef, undef, undef, undef, undef], defers := [] })
    ?assign ?body ?done ?stop
  case hI =>
    rintro M M' k A B ⟨v, i0, i1, i2, i3, i4⟩ hb hc hm
    refine ⟨v, hc _ _ i0 (.inl rfl) i3, own_same i1 (fun g e => ?_), fun j e hj => i2 j e (hm j (own_lt i1 j e) hj), fun h => i3 (hm _ (hp_lt i0) h), i4.trans hb⟩
    obtain ⟨_, ⟨rfl, _⟩ | ⟨g', cap, cur, rfl, x1, x2, _⟩⟩ := i1
    · cases e
    · cases e
      exact (hc g' _ x2 (.inl rfl) (i2 g' rfl)).trans x2.symm
  case hIx => exact fun k A B h => h.elim
  case h0 => exact ⟨_, HA.out.1, World.ownsRow_nil _ _ _ _, fun j e => (by cases e), fun h => (by rcases h with h | h <;> omega), HA.out.2.mono hn⟩
  case assign =>
    intro l k W K hk hK
    obtain ⟨x, hx⟩ : ∃ x, S[k]? = some x := ⟨S[k], by simp [hk]⟩
    have hv : pairV S k = .agg #[.string x.1, .string x.2] := by simp [pairV, hx]
    have ho : obA S k = #[.string x.1, .string x.2] := by simp [obA, hx]
    rw [hv, ho] at hK
    rw [hv]
    gi_wp2_with fail
    exact hK
  case body =>
    rintro l M k bs W ⟨v, i0, i1, i2, i3, i4⟩ hk hM hbs hle
    obtain ⟨x, hx⟩ : ∃ x, S[k]? = some x := ⟨S[k], by simp [hk]⟩
    have hv : pairV S k = .agg #[.string x.1, .string x.2] := by simp [pairV, hx]
    have ho : obA S k = #[.string x.1, .string x.2] := by simp [obA, hx]
    rw [ho] at hbs
    have hc0 : W.cell? ⟨w.heap.size, 0, none⟩ = some v := one_cell i0
    have hf0 : W.frozen? ⟨w.heap.size, 0, none⟩ = false := by simp [World.frozen?, i0]
    have hcb : W.cell? ⟨bs, 0, none⟩ = some (.string x.1) ∧ W.cell? ⟨bs, 0 + 1, none⟩ = some (.string x.2) := by simp [World.cell?, hbs]
    obtain ⟨cb0, cb1⟩ := hcb
    obtain ⟨W3, hW3⟩ : ∃ W3, W.alloc (.cells #[.string x.1, .string x.2] 55) = W3 := ⟨_, rfl⟩
    have hB3 : Below W.heap.size W W3 := by rw [← hW3]; exact (Below.refl _ W).alloc (Nat.le_refl _) _
    have f3 : W3.heap[W.heap.size]? = some (.cells #[.string x.1, .string x.2] 55) := by rw [← hW3]; exact heap_alloc_new W _
    obtain ⟨ti, t1, t2, t3, t4⟩ := info_parts infoPair
    have hWz : w.heap.size ≤ W.heap.size := i4.size
    have hbz := hB3.size
    obtain ⟨v', w4, hap, y1, y2, _, y4⟩ := run_append_own_at (P := Try.prog) W3 w.heap.size 52 52 55 ti _ 2 32 Try.underlying52 t1 t2 t3 t4 rfl (by omega) v k (pairC (S.take k)) (own_same i1 (fun g e => hB3.block g (own_lt i1 g e))) ⟨W.heap.size, 0, none⟩ 1 1 (pairC1 x) rfl (fun j u hj => by
      rw [Addr.add_mid, cell_of_row W3 W.heap.size (0 + j) _ _ _ f3]
      simpa [pairC1] using hj) (by simp [pairC1, Value.oneCell']) (by unfold maxLen; omega) (by omega) (by omega)
    have hvb : ∀ j, v.ownBlock = some j → j ≠ w.heap.size := fun j e => own_ne0 i1 i0 (by decide) j e
    have hlt0 := hp_lt i0
    have hb4 : w4.heap[w.heap.size]? = some (.cells #[v] 52) := (y2.block _ (by omega) (fun e => hvb _ e.symm rfl)).trans ((hB3.block _ hlt0).trans i0)
    have hd0 : w4.cell? ⟨w.heap.size, 0, none⟩ = some v := one_cell hb4
    have hdf : w4.frozen? ⟨w.heap.size, 0, none⟩ = false := by simp [World.frozen?, hb4]
    have hv' : ∀ j, v'.ownBlock = some j → v.ownBlock = some j ∨ W.heap.size ≤ j := fun j e => by
      rcases y4 with z | z
      · exact .inl (z ▸ e)
      · rw [z] at e
        cases e
        exact .inr hbz
    have hMl : ∀ j, M j → n₀ ≤ j ∧ j < W.heap.size := fun j hj => by
      obtain ⟨h1, _, o, ho, _⟩ := hM j hj
      exact ⟨h1, hp_lt ho⟩
    have hfin : roundEnds Wa.heap.size n₀ M (fun M k W => ∃ v, W.heap[w.heap.size]? = some (.cells #[v] 52) ∧ W.ownsRow w.heap.size 55 2 v k (pairC (S.take k)) ∧ (∀ j, v.ownBlock = some j → ¬ M j) ∧ ¬ M w.heap.size ∧ Below n₀ w W) (fun _ _ => False) (k + 1) W .normal ⟨#[], []⟩ (w4.setCell ⟨w.heap.size, 0, none⟩ v') := by
      have hBn : Below n₀ W (w4.setCell ⟨w.heap.size, 0, none⟩ v') := (((hB3.mono (by omega)).grown y2 (by omega) (fun j e => by have := own_base i1 j e; omega)).setCell (p := ⟨w.heap.size, 0, none⟩) hn _)
      refine ⟨⟨hBn.size, fun j o hj ho hc => ?_⟩, fun j hj => ?_, hBn, v', heap_setCell_same _ _ 0 _ _ _ hb4, ?_, fun j e hj => ?_, i3, i4.trans hBn⟩
      · have hjl := hp_lt ho
        have hj1 : j ≠ w.heap.size := fun e => by rw [e, i0] at ho; cases ho; cases hc
        have hj2 : v.ownBlock ≠ some j := fun e => by
          obtain ⟨_, ⟨rfl, _⟩ | ⟨g', cap, cur, rfl, z1, z2, _⟩⟩ := i1
          · cases e
          · cases e
            rw [z2] at ho
            cases ho
            cases hc
        exact (Below.heap_setCell _ _ _ _ hj1).trans ((y2.block j (by omega) (fun e => hj2 e.symm)).trans ((hB3.block j hjl).trans ho))
      · have hjl := (hMl j hj).2
        have hj1 : j ≠ w.heap.size := fun e => i3 (by rw [← e]; exact hj)
        exact (Below.heap_setCell _ _ _ _ hj1).trans ((y2.block j (by omega) (fun e => i2 j e.symm hj)).trans (hB3.block j hjl))
      · rw [List.take_add_one, hx]
        have he : pairC (S.take k ++ [x]) = pairC (S.take k) ++ pairC1 x := by simp [pairC]
        show World.ownsRow _ _ _ _ _ _ (pairC (S.take k ++ [x]))
        rw [he]
        exact own_same y1 (fun g e => Below.heap_setCell _ _ _ _ (by
          rcases hv' g e with z | z
          · exact hvb g z
          · show g ≠ w.heap.size
            omega))
      · rcases hv' j e with z | z
        · exact i2 j z hj
        · have := (hMl j hj).2
          omega
    have HAp := hide hap
    have HF := hide hfin
    obtain ⟨ga, gc, rfl⟩ := own_shape i1
    obtain ⟨k1, hk1⟩ : ∃ k1, k + 1 = k1 := ⟨_, rfl⟩
    have hs5 := own_shape y1
    rw [hk1] at hs5
    obtain ⟨ga', gc', rfl⟩ := hs5
    clear hap hfin y1 y2 y4 hB3 i1 i2 i3 i4 hM hMl hv' hvb hb4 t1 t2 t3 t4 f3 hk1
    rw [hv]
    gi_wp2_with (refine i_append (t := 52) (t' := 52) rfl rfl rfl rfl HAp.out ?_)
    exact HF.out
  case done =>
    rintro D M W hD ⟨v, i0, i1, i2, i3, i4⟩ hK
    have hc0 : W.cell? ⟨w.heap.size, 0, none⟩ = some v := one_cell i0
    rw [List.take_length] at i1
    obtain ⟨m, hm⟩ : ∃ m, S.length = m := ⟨_, rfl⟩
    rw [hm] at i1
    obtain ⟨ga, gc, rfl⟩ := own_shape i1
    have HE := hide (And.intro i1 (And.intro i4 (And.intro hK hm)))
    clear i0 i1 i2 i3 i4 hK hm
    gi_wp2_with fail
    obtain ⟨i1, i4, hK, hm⟩ := HE.out
    refine ⟨by simp, .inl ⟨_, _, rfl, run_takeDeferred hK, ?_⟩⟩
    have hgD : ∀ g, (Value.slice ga m gc).ownBlock = some g → g ≠ D := fun g e e2 => by
      obtain ⟨_, ⟨z1, _⟩ | ⟨g', cap, cur, z1, _, z2, _⟩⟩ := i1
      · rw [z1] at e
        cases e
      · rw [z1] at e
        cases e
        have e3 : g' = D := e2
        rw [e3, hK] at z2
        cases z2
    refine ⟨_, results_tmp rfl _ _ _, _, rfl, ?_, i4.trans (below_put _ _ (by omega))⟩
    rw [hm]
    exact own_same i1 (fun g e => World.putObj_heap_other (hgD g e))
  case stop => exact fun D k W hD hk h => h.elim
set_option maxRecDepth 100000 in
theorem collect_any (n₀ base p b : Nat) (L : List Pr) (pre : ByteArray) (b1 b2 : Nat) (w : World) (h : IsM base p b L w) (hL : L.length ≤ 128) (hlo : p < n₀ ∧ b < n₀) (g1 : w.heap[b1]? = some (.cells #[.pointer (some ⟨p, 0, none⟩)] 23)) (g2 : w.heap[b2]? = some (.cells #[.string pre] 9)) (hb : n₀ ≤ b1 ∧ n₀ ≤ b2) (hn : n₀ ≤ w.heap.size) :
    Calls Try.prog 39 #[riseV b1 b2] w fun e w' => ∃ v, e = .returned v ∧ w'.ownsRow w.heap.size 55 2 v (scanM L pre).length (pairC (scanM L pre)) ∧ Below n₀ w w' := by
  have HA := hide (appendSeq_any n₀ base p b L pre b1 b2 w h hL hlo g1 g2 hb hn)
  obtain ⟨S, hS⟩ : ∃ S, scanM L pre = S := ⟨_, rfl⟩
  rw [hS] at HA ⊢
  clear h g1 g2 hS
  go_enter Try.func39, Try.ntmps39
  go_wp2_with (go_at_call 47; refine HA.out.mono ?_; rintro e w1 ⟨v, rfl, y1, y2⟩)
  go_ret
  exact ⟨_, rfl, y1, y2⟩
set_option maxRecDepth 100000 in
theorem scan_any (base p b : Nat) (L : List Pr) (pre : ByteArray) (w : World) (h : IsM base p b L w) (hL : L.length ≤ 128) :
    Calls Try.prog 22 #[.pointer (some ⟨p, 0, none⟩), .string pre] w fun e w' => ∃ v, e = .returned v ∧ w'.ownsRow w.heap.size 55 2 v (scanM L pre).length (pairC (scanM L pre)) ∧ Below w.heap.size w w' := by
  have hlo : p < w.heap.size ∧ b < w.heap.size := ⟨(h.lt (.inl rfl)).2, (h.lt (.inr rfl)).2⟩
  have HH := hide h
  clear h
  go_enter Try.func22, Try.ntmps22
  go_wp2_with (first
    | (go_at_call 34; refine (rising_any p pre w).mono ?_; rintro e w1 ⟨rfl, f1, f2, z1, b1⟩; have H1 := hide (And.intro f1 (And.intro f2 b1)); clear f1 f2 b1)
    | (go_at_call 39; refine (collect_any w.heap.size base p b L pre w.heap.size (w.heap.size + 1) w1 (HH.out.below H1.out.2.2) hL hlo H1.out.1 H1.out.2.1 ⟨Nat.le_refl _, by omega⟩ (by omega)).mono ?_; rintro e w2 ⟨v, rfl, y1, y2⟩))
  go_ret
  exact ⟨_, rfl, own_less y1 (by omega), H1.out.2.2.trans y2⟩
end Go.Proofs.Ytjdcgndcljmieaa
