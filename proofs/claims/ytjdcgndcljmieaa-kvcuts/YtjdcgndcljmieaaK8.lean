/- Bytes. -/
import Derived.Test.YtjdcgndcljmieaaK7
namespace Go.Proofs.Ytjdcgndcljmieaa
open Go.RowKit Go.Shelf
open Go.ChangeMaps (setBlock)
attribute [local go_sem] Oper.semAt_some

def encP (x : Pr) : List UInt8 := [UInt8.ofNat x.1.size] ++ x.1.toList ++ [UInt8.ofNat (x.2.size / 256)] ++ [UInt8.ofNat x.2.size] ++ x.2.toList
def bytesM (L : List Pr) : List UInt8 := L.flatMap encP
theorem tl_len (s : ByteArray) : s.toList.length = s.size := by rw [ByteArray.toList_eq]; simp
theorem encP_len (x : Pr) : (encP x).length = sz1 x := by
  simp [encP, sz1, tl_len]
  omega
theorem bytesM_len (L : List Pr) : (bytesM L).length = sizeM L := by
  induction L with
  | nil => rfl
  | cons x L ih =>
    simp only [bytesM, sizeM, List.flatMap_cons, List.length_append, List.map_cons, List.sum_cons] at ih ⊢
    rw [encP_len, ih]
theorem begB_empty (k : ByteArray) : begB ⟨#[]⟩ k = true := by
  unfold begB
  have h0 : ByteArray.size ⟨#[]⟩ = 0 := rfl
  have h1 : (⟨#[]⟩ : ByteArray).toList = [] := by rw [ByteArray.toList_eq]
  have h2 : (k.extract 0 0).toList = [] := by rw [ByteArray.toList_eq]; simp
  rw [h0, h1, h2]
  simp
theorem scan_all (L : List Pr) : scanM L ⟨#[]⟩ = L := by
  unfold scanM
  rw [List.filter_eq_self]
  intro x _
  exact begB_empty x.1
theorem size_good {L : List Pr} (hG : Good L) : sizeM L ≤ 532864 := by
  have h1 := sum_le (L := L) (fun x hx => by
    have := hG.each x hx
    simp [sz1]
    omega)
  have h2 : L.length * 4163 ≤ 128 * 4163 := Nat.mul_le_mul_right _ hG.few
  omega
theorem take_size {L : List Pr} (k : Nat) : sizeM (L.take k) ≤ sizeM L := by
  conv => rhs; rw [← List.take_append_drop k L]
  unfold sizeM
  rw [List.map_append, List.sum_append]
  omega
theorem keep5 {W w5 : World} {base j : Nat} {v : Value} {l : List UInt8} {o : Obj} (h : Row W base v l) (hg : W.grownBy w5 v.ownBlock) (hj : W.heap[j]? = some o) (hn : ∀ cs, o ≠ .cells cs 5) : w5.heap[j]? = some o := by
  refine (hg.block j (hp_lt hj) (fun e => ?_)).trans hj
  obtain ⟨_, ⟨rfl, _⟩ | ⟨g, cap, cur, rfl, _, x2, _⟩⟩ := h
  · cases e
  · cases e
    rw [hj] at x2
    cases x2
    exact hn cur rfl
theorem row_ne5 {W : World} {base j : Nat} {v : Value} {l : List UInt8} {o : Obj} (h : Row W base v l) (hj : W.heap[j]? = some o) (hn : ∀ cs, o ≠ .cells cs 5) : v.ownBlock ≠ some j := fun e => by
  obtain ⟨_, ⟨rfl, _⟩ | ⟨g, cap, cur, rfl, _, x2, _⟩⟩ := h
  · cases e
  · cases e
    rw [hj] at x2
    cases x2
    exact hn cur rfl
theorem GK_ne {o : Obj} (h : GK o) : ∀ cs, o ≠ .cells cs 5 := by
  rintro cs rfl
  obtain ⟨cs', T, e, hT⟩ := h
  cases e
  rcases hT with hT | hT <;> exact absurd hT (by decide)
set_option maxRecDepth 100000 in
set_option maxHeartbeats 8000000 in
theorem bytes_any (base p b : Nat) (L : List Pr) (w : World) (h : IsM base p b L w) (hG : Good L) :
    Calls Try.prog 14 #[.pointer (some ⟨p, 0, none⟩)] w fun e w' => ∃ v, e = .returned v ∧ Row w' w.heap.size v (bytesM L) ∧ Below w.heap.size w w' := by
  have hlo : p < w.heap.size ∧ b < w.heap.size := ⟨(h.lt (.inl rfl)).2, (h.lt (.inr rfl)).2⟩
  have HS := hide (size_any base p b L w h hG)
  have hsz := size_good hG
  obtain ⟨N, hN⟩ : ∃ N, sizeM L = N := ⟨_, rfl⟩
  rw [hN] at HS hsz
  have HH := hide (And.intro h (And.intro hG hN))
  obtain ⟨ti, t1, t2, t3, t4⟩ := info_parts info5
  clear h hG hN
  refine (callsIn_wide (n := 3)).1 ?_
  refine callsIn_of_wp_marks Try.func14 rfl trivial ?_ rfl
  simp only [Try.ntmps14, List.size_toArray, List.length_cons, List.length_nil, Nat.reduceAdd, Nat.reduceSub, Array.replicate_succ, Array.replicate_zero, List.push_toArray, List.append_toArray, List.nil_append, List.cons_append]
  gi_wp2_with fail
  refine ⟨trivial, (callsIn_wide.2 HS.out).mono ?_⟩
  rintro e w1 ⟨rfl, b1⟩
  have z1 := b1.size
  gi_wp2_with (refine wpListIn_make_own _ rfl _ _ 30 rfl w.heap.size 5 ti (.int .u8 0) 1 Try.underlying30 t1 t2 t3 .i64 .i64 _ N rfl rfl rfl (by rw [t4]; omega) (by unfold maxLen; omega) (by omega) ?_; intro w2 y1 y2; have hB2 := b1.grown y2 (by omega) (fun k e => by cases e); have H2 := hide (And.intro y1 hB2); have z2 := hB2.size; clear y1 y2 hB2)
  obtain ⟨W3, hW3⟩ : ∃ W3, w2.alloc (.cells #[.slice (some ⟨w1.heap.size, 0, none⟩) 0 N] 30) = W3 := ⟨_, rfl⟩
  have f3 : W3.heap[w2.heap.size]? = some (.cells #[.slice (some ⟨w1.heap.size, 0, none⟩) 0 N] 30) := by rw [← hW3]; exact heap_alloc_new w2 _
  have z3 : W3.heap.size = w2.heap.size + 1 := by rw [← hW3]; simp
  have hB3 : Below w2.heap.size w2 W3 := by rw [← hW3]; exact (Below.refl _ w2).alloc (Nat.le_refl _) _
  rw [hW3]
  refine ⟨trivial, (callsIn_wide.2 (rising_any p ⟨#[]⟩ W3)).mono ?_⟩
  rintro e w4 ⟨rfl, x1, x2, z4, b4⟩
  have hB4 : Below w.heap.size w w4 := H2.out.2.trans ((hB3.mono z2).trans (b4.mono (by omega)))
  have f4 := (b4.block w2.heap.size (by omega)).trans f3
  have y4 : w4.ownsRow w.heap.size 5 1 (.slice (some ⟨w1.heap.size, 0, none⟩) 0 N) 0 [] := own_same H2.out.1 (fun g e => (b4.block g (by have := own_lt H2.out.1 g e; omega)).trans (hB3.block g (own_lt H2.out.1 g e)))
  have hseq := rising_seq (3 - 1) w.heap.size base p b L ⟨#[]⟩ W3.heap.size (W3.heap.size + 1) w4 (HH.out.1.below hB4) HH.out.2.1.few hlo x1 x2 ⟨by omega, by omega⟩
  rw [scan_all] at hseq
  have HQ := hide hseq
  have HA := hide (And.intro hB4 (And.intro f4 (And.intro y4 (And.intro x1 x2))))
  have hw1B : w1.heap.size < w2.heap.size := own_lt H2.out.1 _ rfl
  obtain ⟨B, hB⟩ : ∃ B, w2.heap.size = B := ⟨_, rfl⟩
  obtain ⟨q1, hq1⟩ : ∃ q1, W3.heap.size = q1 := ⟨_, rfl⟩
  rw [hq1] at HQ HA z4 ⊢
  rw [hB] at HA hw1B ⊢
  have zB : w.heap.size ≤ B := by omega
  have zB4 : B < w4.heap.size := by omega
  have zq : q1 = B + 1 := by omega
  have HZ := hide zq
  clear hseq f3 hB3 x1 x2 b4 hB4 f4 y4 H2 hW3 z3 zq hq1 hB
  gi_wp2_with fail
  refine range_own (it := 43) (pre := #[]) (held := #[.pointer (some ⟨q1, 0, none⟩), .pointer (some ⟨q1 + 1, 0, none⟩)]) (by omega) rfl trivial rfl (enters_of Try.func43 (by kernel_rfl) rfl) (n₀ := w.heap.size) (by omega) (Below.refl _ _)
    (fun j hj => by rcases hj with rfl | rfl <;> omega) HQ.out (fun _ => rfl)
    (fun M k W => ∃ v, W.heap[B]? = some (.cells #[v] 30) ∧ Row W w.heap.size v (bytesM (L.take k)) ∧ (∀ j, v.ownBlock = some j → ¬ M j) ∧ ¬ M B ∧ Below w.heap.size w W)
    (fun _ _ => False)
    ?hI ?hIx ?h0 (fun k => .cells (obA L k) 55)
    (fun k bs => { tmps := #[.pointer (some ⟨p, 0, none⟩), undef, .slice none 0 0, .pointer (some ⟨B, 0, none⟩), .pointer (some ⟨bs, 0, none⟩), .pointer (some ⟨p, 0, none⟩), .bool false, .pointer (some ⟨p, 0, none⟩), .int .i64 N, .slice (some ⟨w1.heap.size, 0, none⟩) 0 N, .pointer (some ⟨p, 0, none⟩), riseV q1 (q1 + 1), pairV L k, undef, undef, undef, undef, undef, undef, undef, undef, undef], defers := [] })
    ?assign ?body ?done ?stop
  case hI =>
    rintro M M' k A B' ⟨v, i0, i1, i2, i3, i4⟩ hb hc hm
    refine ⟨v, hc _ _ i0 (.inl rfl) i3, own_same i1 (fun g e => ?_), fun j e hj => i2 j e (hm j (own_lt i1 j e) hj), fun h => i3 (hm _ (hp_lt i0) h), i4.trans hb⟩
    obtain ⟨_, ⟨rfl, _⟩ | ⟨g', cap, cur, rfl, x1, x2, _⟩⟩ := i1
    · cases e
    · cases e
      exact (hc g' _ x2 (.inl rfl) (i2 g' rfl)).trans x2.symm
  case hIx => exact fun k A B h => h.elim
  case h0 =>
    refine ⟨_, HA.out.2.1, HA.out.2.2.1, fun j e hj => ?_, fun h => (by have := HZ.out; rcases h with h | h <;> omega), HA.out.1⟩
    cases e
    have := HZ.out
    rcases hj with h | h
    · have h' : w1.heap.size = q1 := h
      omega
    · have h' : w1.heap.size = q1 + 1 := h
      omega
  case assign =>
    intro l k W K hk hK
    obtain ⟨x, hx⟩ : ∃ x, L[k]? = some x := ⟨L[k], by simp [hk]⟩
    have hv : pairV L k = .agg #[.string x.1, .string x.2] := by simp [pairV, hx]
    have ho : obA L k = #[.string x.1, .string x.2] := by simp [obA, hx]
    rw [hv, ho] at hK
    rw [hv]
    gi_wp2_with fail
    exact hK
  case body =>
    rintro l M k bs W ⟨v, i0, i1, i2, i3, i4⟩ hk hM hbs hle
    obtain ⟨x, hx⟩ : ∃ x, L[k]? = some x := ⟨L[k], by simp [hk]⟩
    obtain ⟨hk1, hk64, hv4⟩ := HH.out.2.1.each x (List.mem_of_getElem? hx)
    have hv : pairV L k = .agg #[.string x.1, .string x.2] := by simp [pairV, hx]
    have ho : obA L k = #[.string x.1, .string x.2] := by simp [obA, hx]
    rw [ho] at hbs
    have hc0 : W.cell? ⟨B, 0, none⟩ = some v := one_cell i0
    have hcb : W.cell? ⟨bs, 0, none⟩ = some (.string x.1) ∧ W.cell? ⟨bs, 1, none⟩ = some (.string x.2) := by simp [World.cell?, hbs]
    obtain ⟨cb0, cb1⟩ := hcb
    have hWz : w.heap.size ≤ W.heap.size := i4.size
    have hkl : (bytesM (L.take k)).length ≤ 532864 := by
      rw [bytesM_len]
      have := take_size (L := L) k
      have := HH.out.2.2
      omega
    have HC1 := hide (addText1_any w.heap.size v (bytesM (L.take k)) x.1 W i1 hWz (by omega) hk64)
    have HI := hide (And.intro i0 (And.intro i1 (And.intro i2 (And.intro i3 (And.intro i4 (And.intro hM hbs))))))
    obtain ⟨ga, gc, rfl⟩ := own_shape i1
    obtain ⟨m, hm⟩ : ∃ m, (bytesM (L.take k)).length = m := ⟨_, rfl⟩
    rw [hm] at hc0 HC1 HI
    have hltB := hp_lt i0
    have hltb := hp_lt hbs
    clear i0 i1 i2 i3 i4 hM hbs ho hm
    rw [hv]
    gi_wp2_with fail
    refine ⟨trivial, (CallsIn.inRound l (callsIn_wide.2 HC1.out)).mono ?_⟩
    rintro e w5 ⟨v5, rfl, r5, g5⟩
    obtain ⟨i0, i1, i2, i3, i4, hM, hbs⟩ := HI.out
    have i1' : Row W w.heap.size (.slice ga m gc) (bytesM (L.take k)) := i1
    have s5 := g5.size
    have f5 := keep5 i1' g5 i0 (fun cs e => by cases e)
    have d5 := keep5 i1' g5 hbs (fun cs e => by cases e)
    have hb5 : Below w.heap.size W w5 := (Below.refl _ W).grown g5 hWz (fun j e => own_base i1' j e)
    have hc5 : w5.cell? ⟨B, 0, none⟩ = some (.slice ga m gc) := one_cell f5
    have hf5 : w5.frozen? ⟨B, 0, none⟩ = false := by simp [World.frozen?, f5]
    obtain ⟨l5, hl5⟩ : ∃ l5, bytesM (L.take k) ++ [UInt8.ofNat x.1.size] ++ x.1.toList = l5 := ⟨_, rfl⟩
    have hl5n : l5.length ≤ 532964 := by rw [← hl5]; simp [tl_len]; omega
    rw [hl5] at r5
    have hneB : v5.ownBlock ≠ some B := row_ne5 r5 f5 (fun cs e => by cases e)
    obtain ⟨W6, hW6⟩ : ∃ W6, w5.setCell ⟨B, 0, none⟩ v5 = W6 := ⟨_, rfl⟩
    have f6 : W6.heap[B]? = some (.cells #[v5] 30) := by
      rw [← hW6, heap_setCell_same _ _ 0 _ _ _ f5]
      rfl
    have o6 : ∀ j, j ≠ B → W6.heap[j]? = w5.heap[j]? := fun j hj => by rw [← hW6]; exact Below.heap_setCell _ _ _ _ hj
    have r6 : Row W6 w.heap.size v5 l5 := own_same r5 (fun g e => o6 g (fun e2 => hneB (e2 ▸ e)))
    have z6 : W6.heap.size = w5.heap.size := by rw [← hW6]; simp
    have hb6 : Below w.heap.size W W6 := by rw [← hW6]; exact hb5.setCell (p := ⟨B, 0, none⟩) zB _
    have hbsB : bs ≠ B := fun e => by rw [e, i0] at hbs; cases hbs
    have d6 := (o6 bs hbsB).trans d5
    have HC2 := hide (addText2_any w.heap.size v5 l5 x.2 W6 r6 (by omega) (by omega) hv4)
    have c6 : W6.cell? ⟨B, 0, none⟩ = some v5 := one_cell f6
    have e6 : W6.cell? ⟨bs, 1, none⟩ = some (.string x.2) := by simp [World.cell?, d6]
    have H6 := hide (And.intro f6 (And.intro o6 (And.intro r6 (And.intro hb6 (And.intro d6 (And.intro r5 (And.intro g5 hl5)))))))
    obtain ⟨m5, hm5⟩ : ∃ m5, l5.length = m5 := ⟨_, rfl⟩
    have hsh := own_shape r5
    rw [hm5] at hsh
    obtain ⟨ga5, gc5, rfl⟩ := hsh
    clear r5 g5 f5 d5 hb5 f6 o6 r6 hb6 d6 i0 i1 i2 i3 i4 hM hbs hl5 hm5 hneB i1'
    gi_wp2_with fail
    refine ⟨trivial, (CallsIn.inRound l (callsIn_wide.2 HC2.out)).mono ?_⟩
    rintro e w7 ⟨v7, rfl, r7, g7⟩
    obtain ⟨f6, o6, r6, hb6, d6, r5, g5, hl5⟩ := H6.out
    obtain ⟨i0, i1, i2, i3, i4, hM, hbs⟩ := HI.out
    have i1' : Row W w.heap.size (.slice ga m gc) (bytesM (L.take k)) := i1
    have f7 := keep5 r6 g7 f6 (fun cs e => by cases e)
    have hc7 : w7.cell? ⟨B, 0, none⟩ = some (.slice ga5 m5 gc5) := one_cell f7
    have hf7 : w7.frozen? ⟨B, 0, none⟩ = false := by simp [World.frozen?, f7]
    have hb7 : Below w.heap.size W w7 := hb6.grown g7 (by omega) (fun j e => own_base r6 j e)
    have hneB7 : v7.ownBlock ≠ some B := row_ne5 r7 f7 (fun cs e => by cases e)
    have o7 : ∀ j o, j ≠ B → W.heap[j]? = some o → (∀ cs, o ≠ .cells cs 5) → (w7.setCell ⟨B, 0, none⟩ v7).heap[j]? = some o := fun j o hj ho hn =>
      (Below.heap_setCell _ _ _ _ hj).trans (keep5 r6 g7 ((o6 j hj).trans (keep5 i1' g5 ho hn)) hn)
    have hb8 : Below w.heap.size W (w7.setCell ⟨B, 0, none⟩ v7) := hb7.setCell (p := ⟨B, 0, none⟩) zB _
    have r8 : Row (w7.setCell ⟨B, 0, none⟩ v7) w.heap.size v7 (bytesM (L.take (k + 1))) := by
      have he : bytesM (L.take (k + 1)) = l5 ++ [UInt8.ofNat (x.2.size / 256)] ++ [UInt8.ofNat x.2.size] ++ x.2.toList := by
        rw [List.take_add_one, hx, ← hl5]
        simp [bytesM, encP]
      rw [he]
      exact own_same r7 (fun g e => Below.heap_setCell _ _ _ _ (fun e2 => hneB7 (by rw [e, e2])))
    have hfin : roundEnds w4.heap.size w.heap.size M (fun M k W => ∃ v, W.heap[B]? = some (.cells #[v] 30) ∧ Row W w.heap.size v (bytesM (L.take k)) ∧ (∀ j, v.ownBlock = some j → ¬ M j) ∧ ¬ M B ∧ Below w.heap.size w W) (fun _ _ => False) (k + 1) W .normal ⟨#[], []⟩ (w7.setCell ⟨B, 0, none⟩ v7) := by
      refine ⟨⟨hb8.size, fun j o hj ho hc => o7 j o (fun e => by rw [e, i0] at ho; cases ho; cases hc) ho (fun cs e => by rw [e] at hc; cases hc)⟩, fun j hj => ?_, hb8, v7, ?_, r8, fun j e hj => ?_, i3, i4.trans hb8⟩
      · obtain ⟨_, _, o, ho, hG⟩ := hM j hj
        exact (o7 j o (fun e => i3 (e ▸ hj)) ho (GK_ne hG)).trans ho.symm
      · rw [heap_setCell_same _ _ 0 _ _ _ f7]
        rfl
      · obtain ⟨_, _, o, ho, hG⟩ := hM j hj
        exact row_ne5 r8 (o7 j o (fun e => i3 (e ▸ hj)) ho (GK_ne hG)) (GK_ne hG) e
    have HF := hide hfin
    have hsh := own_shape r7
    obtain ⟨m7, hm7⟩ : ∃ m7, (l5 ++ [UInt8.ofNat (x.2.size / 256)] ++ [UInt8.ofNat x.2.size] ++ x.2.toList).length = m7 := ⟨_, rfl⟩
    rw [hm7] at hsh
    obtain ⟨ga7, gc7, rfl⟩ := hsh
    clear r7 g7 f7 hb7 o7 hb8 r8 hfin f6 o6 r6 hb6 d6 r5 g5 i0 i1 i2 i3 i4 hM hbs hl5 hm7 hneB7 i1'
    gi_wp2_with fail
    exact HF.out
  case done =>
    rintro D M W hD ⟨v, i0, i1, i2, i3, i4⟩ hK
    have hc0 : W.cell? ⟨B, 0, none⟩ = some v := one_cell i0
    rw [List.take_length] at i1
    obtain ⟨m, hm⟩ : ∃ m, (bytesM L).length = m := ⟨_, rfl⟩
    have i1' := i1
    unfold Row at i1'
    rw [hm] at i1'
    obtain ⟨ga, gc, rfl⟩ := own_shape i1'
    have HE := hide (And.intro i1 (And.intro i4 hK))
    clear i0 i1 i2 i3 i4 hK hm i1'
    gi_wp2_with fail
    obtain ⟨i1, i4, hK⟩ := HE.out
    refine ⟨by simp, .inl ⟨_, _, rfl, run_takeDeferred hK, ?_⟩⟩
    have hgD : ∀ g, (Value.slice ga m gc).ownBlock = some g → g ≠ D := fun g e e2 => by
      obtain ⟨_, ⟨u1, _⟩ | ⟨g', cap, cur, u1, _, u2, _⟩⟩ := i1
      · rw [u1] at e
        cases e
      · rw [u1] at e
        cases e
        have e3 : g' = D := e2
        rw [e3, hK] at u2
        cases u2
    refine ⟨_, results_tmp rfl _ _ _, _, rfl, ?_, i4.trans (below_put _ _ (by omega))⟩
    exact own_same i1 (fun g e => World.putObj_heap_other (hgD g e))
  case stop => exact fun D k W hD hk h => h.elim
end Go.Proofs.Ytjdcgndcljmieaa
